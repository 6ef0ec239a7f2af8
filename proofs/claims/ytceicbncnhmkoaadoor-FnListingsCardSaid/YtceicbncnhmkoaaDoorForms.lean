/- The table of forms by name, a map that the call makes; a field by its letter. -/
import Derived.Test.YtceicbncnhmkoaaDoorOpName
import Derived.Maps.OwnOps
namespace Go.Proofs.YtceicbncnhmkoaaDoor
open Go.RowKit Go Go.ChangeMaps

/-- The letters of an operation's fields. -/
def ltrs : Nat → ByteArray
  | 0 => ⟨#[]⟩
  | 1 => ⟨#[65, 66]⟩
  | 2 => ⟨#[65, 66]⟩
  | 3 => ⟨#[65, 66, 67]⟩
  | 4 => ⟨#[65, 66, 67]⟩
  | 5 => ⟨#[65, 66, 67]⟩
  | 6 => ⟨#[65, 66, 67]⟩
  | 7 => ⟨#[65, 66, 67]⟩
  | 8 => ⟨#[65]⟩
  | 9 => ⟨#[65, 66, 67]⟩
  | 10 => ⟨#[65, 66]⟩
  | 11 => ⟨#[66]⟩
  | 12 => ⟨#[]⟩
  | 13 => ⟨#[65, 66]⟩
  | 14 => ⟨#[65, 66]⟩
  | 15 => ⟨#[65, 66]⟩
  | _ => ⟨#[]⟩

def formV (k : Nat) : Value := .agg #[.int .i64 k, .string (ltrs k)]
def entryAt (k : Nat) : MapEntry := ⟨.string (opN k), formV k, k⟩
def formsTo (k : Nat) : Array MapEntry := ((List.range k).map entryAt).toArray
theorem formsTo_succ (k : Nat) : formsTo (k + 1) = (formsTo k).push (entryAt k) := by simp [formsTo, List.range_succ]

/-- The first operation from i on, of n, whose name s is. -/
def ixFrom (s : ByteArray) (i : Nat) : Nat → Option Nat
  | 0 => none
  | n + 1 => if s == opN i then some i else ixFrom s (i + 1) n
/-- The operation whose name s is. -/
def formIx (s : ByteArray) : Option Nat := ixFrom s 0 17

theorem find_from (s : ByteArray) (n : Nat) : ∀ i, Instr.findNow .string (.string s) ((List.range' i n).map entryAt) i = some ((ixFrom s i n).map fun k => (k, formV k)) := by
  induction n with
  | zero => intro i; rfl
  | succ n ih =>
    intro i
    rw [List.range'_succ]
    simp only [List.map_cons, Instr.findNow, entryAt, Instr.sameNow, ixFrom]
    cases s == opN i with
    | true => rfl
    | false => exact ih (i + 1)
theorem find_forms (s : ByteArray) (k : Nat) : Instr.findNow .string (.string s) (formsTo k).toList 0 = some ((ixFrom s 0 k).map fun k => (k, formV k)) := by
  unfold formsTo
  rw [List.range_eq_range']
  exact find_from s k 0
theorem ix_new : ∀ k : Fin 17, ixFrom (opN k.val) 0 k.val = none := by decide +kernel
theorem ix_at : ∀ k : Fin 17, formIx (opN k.val) = some k.val := by decide +kernel
theorem formIx_op {k : Nat} (h : k < 17) : formIx (opN k) = some k := ix_at ⟨k, h⟩

theorem ixFrom_some {s : ByteArray} {k : Nat} : ∀ (n i : Nat), ixFrom s i n = some k → i ≤ k ∧ k < i + n ∧ s = opN k := by
  intro n
  induction n with
  | zero => intro i h; cases h
  | succ n ih =>
    intro i h
    unfold ixFrom at h
    split at h
    · rename_i he
      cases h
      exact ⟨Nat.le_refl _, by omega, (MapKept.bytes_beq _ _).1 he⟩
    · have := ih (i + 1) h
      exact ⟨by omega, by omega, this.2.2⟩
theorem formIx_some {s : ByteArray} {k : Nat} (h : formIx s = some k) : k < 17 ∧ s = opN k := by
  have := ixFrom_some 17 0 h
  exact ⟨by omega, this.2.2⟩

/-- The map holds the first k forms. -/
def FormMap (W w : World) (k : Nat) : Prop := w.heap[W.heap.size]? = some (.map (formsTo k) k) ∧ Below W.heap.size W w

theorem FormMap.made (w : World) : FormMap w (w.alloc (.map #[] 0)) 0 := ⟨(MapKept.heap_alloc w _).1, (Below.refl _ _).alloc (Nat.le_refl _) _⟩

theorem wpList_insert_form {W w : World} {ops : Array Oper} {rest : List Oper} {o : Oper} {a : Act} {Q : Exit → Act → World → Prop} (k : Nat)
    (h : FormMap W w k) (hk : k < 17) (hg : o.guard = none) (m x v : Operand) (hop : o.op = Op.insert 59 m x v)
    (hm : a.eval m = .map (some W.heap.size)) (hx : a.eval x = .string (opN k)) (hv : a.eval v = formV k)
    (hK : ∀ w', FormMap W w' (k + 1) → wpList Tryd.prog ops Q rest (a.put o.dst undef) w') : wpList Tryd.prog ops Q (o :: rest) a w := by
  refine wpList_plain hg fun K' hK' => ?_
  obtain ⟨hb, hbel⟩ := h
  have hf := find_forms (opN k) k
  rw [ix_new ⟨k, hk⟩, Option.map_none] at hf
  have hrun : (Instr.mapUpdate 59 (.map (some W.heap.size)) (.string (opN k)) (formV k)).run Tryd.prog w = .ok () (setBlock w W.heap.size (.map (formsTo (k + 1)) (k + 1))) := by
    rw [formsTo_succ]
    simp [Instr.mapUpdate, run_underlying Tryd.underlying59, MapKept.run_getObj_map hb, MapKept.run_checkKey Tryd.underlying9 (k := .string (opN k)) trivial, MapKept.run_findKey Tryd.underlying9 hf, MapKept.run_setObj_map _ hb, Result.andThen, setBlock, entryAt]
  unfold Oper.wp
  simp [execOp, hop, hm, hx, hv, hrun, Result.andThen]
  refine hK' _ _ (hK _ ⟨heap_setBlock_same hb _, hbel.trans ⟨rfl, rfl, rfl, by simp [setBlock], fun i hi => heap_setBlock_other hb _ (by omega)⟩⟩)

set_option maxRecDepth 100000 in
set_option maxHeartbeats 2000000 in
theorem pForms_any (w : World) : Calls Tryd.prog 35 #[] w (fun e w' => e = .returned (.map (some w.heap.size)) ∧ FormMap w w' 17) := by
  have hmm := @run_makeMap Tryd.prog
  have h0 := FormMap.made w
  go_enter Tryd.func35, Tryd.ntmps35
  go_wp2_with (refine wpList_insert_form (W := w) ?_ ?_ ?_ rfl _ _ _ rfl ?_ ?_ ?_ ?_; rotate_left 1; assumption; decide; rfl; rfl; rfl; intro w1 h1)
  go_ret
  exact ⟨rfl, by assumption⟩

/-- The zero form. -/
theorem zero_form (w : World) : (zeroValue 57).run Tryd.prog w = .ok (.agg #[.int .i64 0, .string ⟨#[]⟩]) w := by kernel_rfl

/-- What a look-up finds. -/
def formAt (s : ByteArray) : Value := match formIx s with | some k => formV k | none => .agg #[.int .i64 0, .string ⟨#[]⟩]

theorem look_form {W w : World} (h : FormMap W w 17) (s : ByteArray) : (Instr.lookup 59 (.map (some W.heap.size)) (.string s) false).run Tryd.prog w = .ok (formAt s) w := by
  obtain ⟨hb, _⟩ := h
  have hf := find_forms s 17
  unfold formAt formIx
  cases hx : ixFrom s 0 17 with
  | none =>
    rw [hx, Option.map_none] at hf
    simp [Instr.lookup, run_underlying Tryd.underlying59, MapKept.run_getObj_map hb, MapKept.run_checkKey Tryd.underlying9 (k := .string s) trivial, MapKept.run_findKey Tryd.underlying9 hf, Result.andThen]
  | some k =>
    rw [hx, Option.map_some] at hf
    simp [Instr.lookup, run_underlying Tryd.underlying59, MapKept.run_getObj_map hb, MapKept.run_checkKey Tryd.underlying9 (k := .string s) trivial, MapKept.run_findKey Tryd.underlying9 hf, Result.andThen]
theorem look_form_ok {W w : World} (h : FormMap W w 17) (s : ByteArray) : (Instr.lookup 59 (.map (some W.heap.size)) (.string s) true).run Tryd.prog w = .ok (.tuple #[formAt s, .bool (formIx s).isSome]) w := by
  obtain ⟨hb, _⟩ := h
  have hf := find_forms s 17
  unfold formAt formIx
  cases hx : ixFrom s 0 17 with
  | none =>
    rw [hx, Option.map_none] at hf
    simp [Instr.lookup, run_underlying Tryd.underlying59, MapKept.run_getObj_map hb, MapKept.run_checkKey Tryd.underlying9 (k := .string s) trivial, MapKept.run_findKey Tryd.underlying9 hf, Result.andThen]
  | some k =>
    rw [hx, Option.map_some] at hf
    simp [Instr.lookup, run_underlying Tryd.underlying59, MapKept.run_getObj_map hb, MapKept.run_checkKey Tryd.underlying9 (k := .string s) trivial, MapKept.run_findKey Tryd.underlying9 hf, Result.andThen]

theorem fieldOf_any (p : Nat) (c : Int) (w : World) : Calls Tryd.prog 37 #[.pointer (some ⟨p, 0, none⟩), .int .i32 c] w (fun e w' => e = .returned (.pointer (some ⟨p, if c = 65 then 1 else if c = 66 then 2 else 3, none⟩)) ∧ w = w') := by
  by_cases h1 : c = 65
  · subst h1
    rw [if_pos rfl]
    go_enter Tryd.func37, Tryd.ntmps37
    go_wp2
    go_ret
    exact ⟨rfl, rfl⟩
  · have d1 : (c == 65) = false := by simpa using h1
    rw [if_neg h1]
    by_cases h2 : c = 66
    · subst h2
      rw [if_pos rfl]
      go_enter Tryd.func37, Tryd.ntmps37
      go_wp2
      go_ret
      exact ⟨rfl, rfl⟩
    · have d2 : (c == 66) = false := by simpa using h2
      rw [if_neg h2]
      clear h1 h2
      go_enter Tryd.func37, Tryd.ntmps37
      go_wp2
      go_ret
      exact ⟨rfl, rfl⟩

theorem field_a (p : Nat) (w : World) : Calls Tryd.prog 37 #[.pointer (some ⟨p, 0, none⟩), .int .i32 65] w (fun e w' => e = .returned (.pointer (some ⟨p, 1, none⟩)) ∧ w = w') := fieldOf_any p 65 w
theorem field_b (p : Nat) (w : World) : Calls Tryd.prog 37 #[.pointer (some ⟨p, 0, none⟩), .int .i32 66] w (fun e w' => e = .returned (.pointer (some ⟨p, 2, none⟩)) ∧ w = w') := fieldOf_any p 66 w
theorem field_c (p : Nat) (w : World) : Calls Tryd.prog 37 #[.pointer (some ⟨p, 0, none⟩), .int .i32 67] w (fun e w' => e = .returned (.pointer (some ⟨p, 3, none⟩)) ∧ w = w') := fieldOf_any p 67 w

end Go.Proofs.YtceicbncnhmkoaaDoor
