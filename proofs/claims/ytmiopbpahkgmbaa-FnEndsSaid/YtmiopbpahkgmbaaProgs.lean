/- Rows of instructions: one that is only read, one that a call owns; each as the row of its fields. -/
import Derived.Test.YtmiopbpahkgmbaaInts
import Derived.Test.YtmiopbpahkgmbaaInsOk
import Derived.Deep.RegionHeld3
namespace Go.Proofs.Ytmiopbpahkgmbaa
open Go.RowKit Go

/-- An instruction's four fields. -/
structure I4 where
  o : Int
  a : Int
  b : Int
  c : Int

/-- The fields of instructions, one behind the other. -/
def flat : List I4 → List Int
  | [] => []
  | i :: p => i.o :: i.a :: i.b :: i.c :: flat p

theorem flat_len (p : List I4) : (flat p).length = p.length * 4 := by
  induction p with
  | nil => rfl
  | cons i p ih => simp [flat, ih]; omega

theorem flat_append (p q : List I4) : flat (p ++ q) = flat p ++ flat q := by
  induction p with
  | nil => rfl
  | cons i p ih => simp [flat, ih]

theorem flat_inj : ∀ {p q : List I4}, flat p = flat q → p = q
  | [], [], _ => rfl
  | [], _ :: _, h => by simp [flat] at h
  | _ :: _, [], h => by simp [flat] at h
  | i :: p, j :: q, h => by
    simp only [flat, List.cons.injEq] at h
    obtain ⟨h1, h2, h3, h4, h5⟩ := h
    rw [flat_inj h5]
    cases i; cases j
    simp only at h1 h2 h3 h4
    subst h1 h2 h3 h4
    rfl

theorem flat_at : ∀ {p : List I4} {k : Nat} (h : k < p.length), (flat p)[k * 4]? = some p[k].o ∧ (flat p)[k * 4 + 1]? = some p[k].a ∧ (flat p)[k * 4 + 2]? = some p[k].b ∧ (flat p)[k * 4 + 3]? = some p[k].c
  | [], k, h => absurd h (by simp)
  | i :: p, 0, _ => by simp [flat]
  | i :: p, k + 1, h => by
    have ih := flat_at (p := p) (k := k) (by simpa using h)
    have e0 : (k + 1) * 4 = k * 4 + 1 + 1 + 1 + 1 := by omega
    simp only [e0, flat, List.getElem?_cons_succ, List.getElem_cons_succ]
    exact ih

/-- The cells of an instruction at place o of block g. -/
def At4 (w : World) (g off : Nat) (i : I4) : Prop :=
  w.cell? ⟨g, off, none⟩ = some (.int .i64 i.o) ∧ w.cell? ⟨g, off + 1, none⟩ = some (.int .i64 i.a) ∧ w.cell? ⟨g, off + 2, none⟩ = some (.int .i64 i.b) ∧ w.cell? ⟨g, off + 3, none⟩ = some (.int .i64 i.c)

theorem Nums.at4 {B : Nat} {w : World} {a : Option Addr} {p : List I4} (h : Nums B w a (flat p)) (k : Nat) (hk : k < p.length) :
    ∃ g off, a = some ⟨g, off, none⟩ ∧ g < B ∧ At4 w g (off + k * 4) p[k] := by
  have hl := flat_len p
  obtain ⟨f0, f1, f2, f3⟩ := flat_at hk
  obtain ⟨g, off, rfl, hg, c0⟩ := h.2 (k * 4) (by omega)
  obtain ⟨_, _, e1, _, c1⟩ := h.2 (k * 4 + 1) (by omega)
  obtain ⟨_, _, e2, _, c2⟩ := h.2 (k * 4 + 2) (by omega)
  obtain ⟨_, _, e3, _, c3⟩ := h.2 (k * 4 + 3) (by omega)
  cases e1; cases e2; cases e3
  rw [List.getElem?_eq_getElem (by omega)] at f0 f1 f2 f3
  rw [Option.some.inj f0] at c0
  rw [Option.some.inj f1] at c1
  rw [Option.some.inj f2] at c2
  rw [Option.some.inj f3] at c3
  exact ⟨g, off, rfl, hg, c0, by rw [Nat.add_assoc]; exact c1, by rw [Nat.add_assoc]; exact c2, by rw [Nat.add_assoc]; exact c3⟩

/-- A row of instructions that the call owns, from block B on: n of them, their fields xs. -/
def OwnP (B : Nat) (w : World) (v : Value) (n : Nat) (xs : List Int) : Prop := w.ownsRow B 33 4 v n (xs.map (.int .i64))

theorem OwnP.len {B : Nat} {w : World} {v : Value} {n : Nat} {xs : List Int} (h : OwnP B w v n xs) : xs.length = n * 4 := by
  have := h.1
  rwa [List.length_map] at this
theorem OwnP.form {B : Nat} {w : World} {v : Value} {n : Nat} {xs : List Int} (h : OwnP B w v n xs) : ∃ (a : Option Addr) (cap : Nat), v = .slice a n cap := by
  rcases h.2 with ⟨h1, h2⟩ | ⟨g, cap, cur, h1, _⟩
  · exact ⟨none, 0, by rw [h1, h2]⟩
  · exact ⟨_, cap, h1⟩
theorem OwnP.below {B : Nat} {w w' : World} {v : Value} {n : Nat} {xs : List Int} (h : OwnP B w v n xs) (hb : Below w.heap.size w w') : OwnP B w' v n xs :=
  World.ownsRow.kept h (row := none) ⟨hb.os, hb.tape, hb.output, hb.size, fun k hk _ => hb.block k hk⟩ (by cases hv : v.ownBlock <;> simp)
theorem OwnP.alloc {B : Nat} {w : World} {v : Value} {n : Nat} {xs : List Int} (h : OwnP B w v n xs) (o : Obj) : OwnP B (w.alloc o) v n xs := World.ownsRow.alloc h o
theorem OwnP.nil (B : Nat) (w : World) : OwnP B w (.slice none 0 0) 0 [] := World.ownsRow_nil _ _ _ _
theorem OwnP.base {B B' : Nat} {w : World} {v : Value} {n : Nat} {xs : List Int} (h : OwnP B w v n xs) (hb : B' ≤ B) : OwnP B' w v n xs :=
  ⟨h.1, h.2.imp id fun ⟨g, c, cur, e1, e2, e3⟩ => ⟨g, c, cur, e1, by omega, e3⟩⟩

theorem OwnP.cell {B : Nat} {w : World} {a : Option Addr} {n m cap : Nat} {xs : List Int} (h : OwnP B w (.slice a m cap) n xs) (k : Nat) (hk : k < xs.length) : ∃ g, a = some ⟨g, 0, none⟩ ∧ B ≤ g ∧ g < w.heap.size ∧ w.cell? ⟨g, k, none⟩ = some (.int .i64 xs[k]) := by
  have hl := h.len
  rcases h.2 with ⟨h1, h2⟩ | ⟨g, cap', cur, h1, _⟩
  · subst h2; omega
  · simp only [Value.slice.injEq] at h1
    obtain ⟨rfl, rfl, rfl⟩ := h1
    have hlt := World.ownsRow.lt h g rfl
    have hc := World.ownsRow.cellAt h k (by omega)
    refine ⟨g, rfl, hlt.1, hlt.2, ?_⟩
    rw [hc, List.getElem?_map, List.getElem?_eq_getElem hk]
    rfl

theorem OwnP.nums {B B' : Nat} {w : World} {a : Option Addr} {n m cap : Nat} {xs : List Int} (h : OwnP B w (.slice a m cap) n xs) (hx : ∀ x ∈ xs, i64R x) (hB : w.heap.size ≤ B') : Nums B' w a xs :=
  ⟨hx, fun j hj => by
    obtain ⟨g, rfl, _, hlt, hc⟩ := h.cell j hj
    exact ⟨g, 0, rfl, by omega, by rw [Nat.zero_add]; exact hc⟩⟩

theorem OwnP.frozen {B : Nat} {w : World} {g n cap : Nat} {xs : List Int} (h : OwnP B w (.slice (some ⟨g, 0, none⟩) n cap) n xs) (j : Nat) : w.frozen? ⟨g, j, none⟩ = false :=
  World.ownsRow.frozenAt h j

theorem OwnP.stored {B : Nat} {w : World} {g n cap : Nat} {xs : List Int} (h : OwnP B w (.slice (some ⟨g, 0, none⟩) n cap) n xs) (j : Nat) (t : Int) :
    OwnP B (w.setCell ⟨g, j, none⟩ (.int .i64 t)) (.slice (some ⟨g, 0, none⟩) n cap) n (xs.set j t) := by
  have := (World.ownsRow.stored h j (.int .i64 t)).1
  unfold OwnP
  rw [List.map_set]
  exact this

theorem OwnP.apart {w w' : World} {b1 b2 : Nat} {v1 v2 : Value} {n1 n2 : Nat} {xs ys : List Int} (h : OwnP b1 w v1 n1 xs) (hlt : ∀ g, v1.ownBlock = some g → g < b2) (h2 : OwnP b2 w v2 n2 ys) (hg : w.grownBy w' v2.ownBlock) : OwnP b1 w' v1 n1 xs := by
  refine World.ownsRow.kept h hg ?_
  cases hv : v1.ownBlock with
  | none => exact .inl rfl
  | some g =>
    refine .inr fun e => ?_
    have := hlt g hv
    have := (World.ownsRow.lt h2 g e.symm).1
    omega

theorem info_ins : (Try.prog.info? 33).map (fun i => (i.zero, i.size, i.bytes)) = some (some (.agg #[.int .i64 0, .int .i64 0, .int .i64 0, .int .i64 0]), 4, 32) := by kernel_rfl

theorem set4 (L R : List Int) (x0 x1 x2 x3 o a b c : Int) (m : Nat) (hm : L.length = m) :
    ((((L ++ (x0 :: x1 :: x2 :: x3 :: R)).set m o).set (m + 1) a).set (m + 2) b).set (m + 3) c = L ++ (o :: a :: b :: c :: R) := by
  subst hm
  rw [List.set_append_right _ _ (by omega), Nat.sub_self, List.set_cons_zero,
    List.set_append_right _ _ (by omega), Nat.add_sub_cancel_left, List.set_cons_succ, List.set_cons_zero,
    List.set_append_right _ _ (by omega), Nat.add_sub_cancel_left, List.set_cons_succ, List.set_cons_succ, List.set_cons_zero,
    List.set_append_right _ _ (by omega), Nat.add_sub_cancel_left, List.set_cons_succ, List.set_cons_succ, List.set_cons_succ, List.set_cons_zero]

theorem flat_take (p : List I4) (k : Nat) (h : k < p.length) : flat (p.take (k + 1)) = flat (p.take k) ++ [p[k].o, p[k].a, p[k].b, p[k].c] := by
  rw [List.take_succ_eq_append_getElem h, flat_append]
  rfl

/-- The first k instructions, and zeros behind them. -/
def fillP (p : List I4) (k : Nat) : List Int := flat (p.take k) ++ List.replicate ((p.length - k) * 4) 0
theorem fillP_len (p : List I4) (k : Nat) (h : k ≤ p.length) : (fillP p k).length = p.length * 4 := by
  unfold fillP
  rw [List.length_append, flat_len, List.length_replicate, List.length_take]
  omega
theorem fillP_set (p : List I4) (k : Nat) (h : k < p.length) : ((((fillP p k).set (k * 4) p[k].o).set (k * 4 + 1) p[k].a).set (k * 4 + 2) p[k].b).set (k * 4 + 3) p[k].c = fillP p (k + 1) := by
  have e : (p.length - k) * 4 = (p.length - (k + 1)) * 4 + 1 + 1 + 1 + 1 := by omega
  have hl : (flat (p.take k)).length = k * 4 := by rw [flat_len, List.length_take]; omega
  unfold fillP
  rw [e, List.replicate_succ, List.replicate_succ, List.replicate_succ, List.replicate_succ, set4 _ _ _ _ _ _ _ _ _ _ _ hl, flat_take p k h, List.append_assoc]
  rfl
theorem fillP_end (p : List I4) : fillP p p.length = flat p := by
  unfold fillP
  rw [List.take_length, Nat.sub_self, Nat.zero_mul, List.replicate_zero, List.append_nil]

/-- After k rounds of copying. -/
def CopyRelP (p : List I4) (W : World) (i : Value) (wr : World) : Prop :=
  ∃ k : Nat, k ≤ p.length ∧ i = .int .i64 k ∧ OwnP W.heap.size wr (.slice (some ⟨W.heap.size, 0, none⟩) p.length p.length) p.length (fillP p k) ∧ Below W.heap.size W wr

theorem madeP (n : Nat) : (madeCells (Value.agg #[.int .i64 0, .int .i64 0, .int .i64 0, .int .i64 0]).cells (n * 4)).toList = (List.replicate (n * 4) (0 : Int)).map (.int .i64) := by
  apply List.ext_getElem?
  intro j
  have e : (Value.agg #[.int .i64 0, .int .i64 0, .int .i64 0, .int .i64 0]).cells = #[.int .i64 0, .int .i64 0, .int .i64 0, .int .i64 0] := rfl
  rw [e]
  by_cases hj : j < n * 4
  · have h4 : j % 4 = 0 ∨ j % 4 = 1 ∨ j % 4 = 2 ∨ j % 4 = 3 := by omega
    rw [List.getElem?_map, List.getElem?_replicate, if_pos hj]
    simp only [madeCells, Array.getElem?_toList, Array.getElem?_map, Array.getElem?_range, hj, if_true]
    rcases h4 with h | h | h | h <;> simp [h]
  · simp [madeCells, hj]

theorem copyP_start {p : List I4} {W w1 : World} (h : w1.ownsRow W.heap.size 33 4 (.slice (some ⟨W.heap.size, 0, none⟩) p.length p.length) p.length (madeCells (Value.agg #[.int .i64 0, .int .i64 0, .int .i64 0, .int .i64 0]).cells (p.length * 4)).toList) (hg : W.grownBy w1 none) : CopyRelP p W (.int .i64 0) w1 := by
  refine ⟨0, Nat.zero_le _, rfl, ?_, grownBy_below hg (Nat.le_refl _) (fun _ e => by cases e)⟩
  rw [madeP] at h
  unfold OwnP fillP
  rw [List.take_zero, Nat.sub_zero]
  exact h

theorem OwnP.stored4 {B : Nat} {w : World} {g n cap : Nat} {xs : List Int} (h : OwnP B w (.slice (some ⟨g, 0, none⟩) n cap) n xs) (j : Nat) (o a b c : Int) :
    OwnP B ((((w.setCell ⟨g, j, none⟩ (.int .i64 o)).setCell ⟨g, j + 1, none⟩ (.int .i64 a)).setCell ⟨g, j + 2, none⟩ (.int .i64 b)).setCell ⟨g, j + 3, none⟩ (.int .i64 c)) (.slice (some ⟨g, 0, none⟩) n cap) n ((((xs.set j o).set (j + 1) a).set (j + 2) b).set (j + 3) c) :=
  (((h.stored j o).stored (j + 1) a).stored (j + 2) b).stored (j + 3) c

theorem copyP_step {p : List I4} {W wr : World} {k : Nat} (hk : k < p.length) (ho : OwnP W.heap.size wr (.slice (some ⟨W.heap.size, 0, none⟩) p.length p.length) p.length (fillP p k)) (hb : Below W.heap.size W wr) :
    CopyRelP p W (.int .i64 ((k : Int) + 1)) ((((wr.setCell ⟨W.heap.size, k * 4, none⟩ (.int .i64 p[k].o)).setCell ⟨W.heap.size, k * 4 + 1, none⟩ (.int .i64 p[k].a)).setCell ⟨W.heap.size, k * 4 + 2, none⟩ (.int .i64 p[k].b)).setCell ⟨W.heap.size, k * 4 + 3, none⟩ (.int .i64 p[k].c)) :=
  ⟨k + 1, hk, by go_num, by rw [← fillP_set p k hk]; exact ho.stored4 _ _ _ _ _, (((hb.setCell (Nat.le_refl _) _).setCell (Nat.le_refl _) _).setCell (Nat.le_refl _) _).setCell (Nat.le_refl _) _⟩

/-- The cells of a row at one place are there, whatever they hold. -/
theorem OwnP.some4 {B : Nat} {w : World} {g n cap : Nat} {xs : List Int} (h : OwnP B w (.slice (some ⟨g, 0, none⟩) n cap) n xs) (k : Nat) (hk : k < n) :
    ∃ x : I4, At4 w g (k * 4) x := by
  have hl := h.len
  have key : ∀ j (hj : j < xs.length), w.cell? ⟨g, j, none⟩ = some (.int .i64 xs[j]) := fun j hj => by
    obtain ⟨g', hg', _, _, hc⟩ := h.cell j hj
    obtain rfl : g = g' := by injection hg' with e; injection e
    exact hc
  exact ⟨⟨_, _, _, _⟩, key _ (by omega), key _ (by omega), key _ (by omega), key _ (by omega)⟩

set_option maxRecDepth 100000 in
set_option maxHeartbeats 400000 in
theorem toInsS_any (B : Nat) (w : World) (a : Option Addr) (p : List I4) (cap : Nat) (hl : p.length ≤ 1048576) (h : Nums B w a (flat p)) (hB : B ≤ w.heap.size) :
    Calls Try.prog 33 #[.slice a p.length cap] w (fun e w' => e = .returned (.slice (some ⟨w.heap.size, 0, none⟩) p.length p.length) ∧ OwnP w.heap.size w' (.slice (some ⟨w.heap.size, 0, none⟩) p.length p.length) p.length (flat p) ∧ Below w.heap.size w w') := by
  obtain ⟨i0, hi, hz0, hz1, hz2⟩ := info_parts info_ins
  have HH := Lib.hid h
  clear h
  have hm : p.length ≤ maxLen := by unfold maxLen; omega
  go_enter Try.func33, Try.ntmps33
  go_wp2_with (at_make; refine wpList_make_full _ rfl _ _ _ rfl w.heap.size 33 i0 (.agg #[.int .i64 0, .int .i64 0, .int .i64 0, .int .i64 0]) 4 Try.underlying24 hi hz0 hz1 .i64 .i64 _ _ p.length rfl rfl rfl rfl (by rw [hz2]; omega) hm (Nat.le_refl _) ?_; intro w1 hown hgrow)
  have hst := copyP_start hown hgrow
  have HS := Lib.hid hst
  clear hst hown hgrow
  go_wp2_with fail
  go_loopw [4] (fun i wr => CopyRelP p w i wr) (fun i _ => p.length - (intOf i).toNat)
  case atStart => exact HS.out
  case round =>
    obtain ⟨k, hk, rfl, hown, hbel⟩ := hrel
    have hsz := hbel.size
    by_cases hlt : k < p.length
    · obtain ⟨g, off, rfl, hg, c0, c1, c2, c3⟩ := (HH.out.kept (hbel.mono hB)).at4 k hlt
      have HO := Lib.hid hown
      clear hown
      have HST := Lib.hid (fun (wr : World) => @copyP_step p w wr k hlt)
      generalize p[k] = x at *
      go_wp2_with fail
      refine (toIns_any x.o x.a x.b x.c _).mono ?_
      rintro e w2 ⟨rfl, hb2⟩
      have HO2 := Lib.hid (HO.out.below hb2)
      have HB2 := Lib.hid (hbel.trans (hb2.mono hsz))
      obtain ⟨y, d0, d1, d2, d3⟩ := HO2.out.some4 k hlt
      have hfz := HO2.out.frozen
      clear c0 c1 c2 c3 hb2
      go_wp2_with fail
      go_roundw
      case rel => exact HST.out _ HO2.out HB2.out
      case measure => simp [intOf]; omega
    · obtain rfl : k = p.length := by omega
      rw [fillP_end] at hown
      have HO := Lib.hid hown
      clear hown
      go_wp2_with fail
      go_ret
      exact ⟨rfl, HO.out, hbel⟩

theorem eqIns_same (o a b c : Int) (w : World) : Calls Try.prog 76 #[.agg #[.int .i64 o, .int .i64 a, .int .i64 b, .int .i64 c], .agg #[.int .i64 o, .int .i64 a, .int .i64 b, .int .i64 c]] w (Said (.bool true) w) := by
  go_enter Try.func76, Try.ntmps76
  go_wp2
  go_ret
  exact ⟨rfl, below2 _ _ _⟩

set_option maxRecDepth 100000 in
set_option maxHeartbeats 1000000 in
theorem eqP_same (a1 a2 : Option Addr) (B1 B2 : Nat) (c1 c2 : Nat) (p : List I4) (w : World) (hl : p.length ≤ 10000000) (h1 : Nums B1 w a1 (flat p)) (h2 : Nums B2 w a2 (flat p)) (hB1 : B1 ≤ w.heap.size) (hB2 : B2 ≤ w.heap.size) :
    Calls Try.prog 36 #[.slice a1 p.length c1, .slice a2 p.length c2] w (fun e w' => e = .returned (.bool true) ∧ Below w.heap.size w w') := by
  have H1 := Lib.hid h1
  have H2 := Lib.hid h2
  clear h1 h2
  go_enter Try.func36, Try.ntmps36
  go_wp2_with fail
  go_loopw [5] (fun i wr => ∃ k : Nat, k ≤ p.length ∧ i = .int .i64 k ∧ Below w.heap.size w wr) (fun i _ => p.length - (intOf i).toNat)
  case atStart => exact ⟨0, by omega, rfl, Below.refl _ _⟩
  case round =>
    obtain ⟨k, hk, rfl, hb⟩ := hrel
    by_cases hlt : k < p.length
    · obtain ⟨g1, o1, rfl, hg1, d0, d1, d2, d3⟩ := (H1.out.kept (hb.mono hB1)).at4 k hlt
      obtain ⟨g2, o2, rfl, hg2, e0, e1, e2, e3⟩ := (H2.out.kept (hb.mono hB2)).at4 k hlt
      have k0 : (0 : Int) ≤ (k : Int) := Int.natCast_nonneg _
      have k1 : (k : Int) < (p.length : Int) := by omega
      have hs := hb.size
      generalize p[k] = x at *
      go_wp2_with fail
      go_region_held3 (fun w' => (w'.cell? ⟨g1, o1 + k * 4, none⟩ = some (.int .i64 x.o) ∧ w'.cell? ⟨g1, o1 + k * 4 + 1, none⟩ = some (.int .i64 x.a) ∧ w'.cell? ⟨g1, o1 + k * 4 + 2, none⟩ = some (.int .i64 x.b) ∧ w'.cell? ⟨g1, o1 + k * 4 + 3, none⟩ = some (.int .i64 x.c)) ∧ w'.cell? ⟨g2, o2 + k * 4, none⟩ = some (.int .i64 x.o) ∧ w'.cell? ⟨g2, o2 + k * 4 + 1, none⟩ = some (.int .i64 x.a) ∧ w'.cell? ⟨g2, o2 + k * 4 + 2, none⟩ = some (.int .i64 x.b) ∧ w'.cell? ⟨g2, o2 + k * 4 + 3, none⟩ = some (.int .i64 x.c)) (first | exact ⟨⟨d0, d1, d2, d3⟩, e0, e1, e2, e3⟩ | (refine ⟨⟨?_, ?_, ?_, ?_⟩, ?_, ?_, ?_, ?_⟩ <;> (rw [hb1.cell (by simp; omega)]; assumption))) ((first | (go_at_call 76; refine (eqIns_same x.o x.a x.b x.c _).mono ?_; rintro e w1 ⟨rfl, hb1⟩)))
      have hb2 : Below wr.heap.size wr w1 := ⟨hb1.os, hb1.tape, hb1.output, hb1.size, hb1.block⟩
      go_wp2_with fail
      go_roundw
      case rel => exact ⟨k + 1, by omega, by go_num, hb.trans (hb2.mono hs)⟩
      case measure => simp [intOf]; omega
    · obtain rfl : k = p.length := by omega
      go_wp2_with fail
      go_ret
      exact ⟨rfl, hb⟩

theorem marksI_four (k m : Nat) : marksI k (m + 4) = marksI k m ++ [((k + m : Nat) : Int), ((k + m + 1 : Nat) : Int), ((k + m + 2 : Nat) : Int), ((k + m + 3 : Nat) : Int)] := by
  rw [show m + 4 = m + 1 + 1 + 1 + 1 from rfl, marksI_snoc, marksI_snoc, marksI_snoc, marksI_snoc]
  simp only [List.append_assoc, List.cons_append, List.nil_append, Nat.add_assoc]

theorem drop4 (xs : List Int) (m : Nat) (h : m + 3 < xs.length) : ∃ x0 x1 x2 x3, xs.drop m = x0 :: x1 :: x2 :: x3 :: xs.drop (m + 4) :=
  ⟨xs[m], xs[m + 1], xs[m + 2], xs[m + 3], by
    rw [List.drop_eq_getElem_cons (by omega), List.drop_eq_getElem_cons (by omega), List.drop_eq_getElem_cons (by omega), List.drop_eq_getElem_cons (by omega)]⟩

/-- After j rounds of marking. -/
def MarkRelP (k n : Nat) (xs : List Int) (W : World) (base g cap : Nat) (q i : Value) (wr : World) : Prop :=
  ∃ j : Nat, j ≤ n ∧ i = .int .i64 j ∧ q = .int .i64 (k + j * 4 : Nat) ∧ OwnP base wr (.slice (some ⟨g, 0, none⟩) n cap) n (marksI k (j * 4) ++ xs.drop (j * 4)) ∧ W.grownBy wr (some g)

theorem markP_rel {k n j : Nat} {xs : List Int} {W w1 : World} {base g cap : Nat} (hn : xs.length = n * 4) (hj : j < n) (h : OwnP base w1 (.slice (some ⟨g, 0, none⟩) n cap) n (marksI k (j * 4) ++ xs.drop (j * 4))) (hg : W.grownBy w1 (some g)) :
    MarkRelP k n xs W base g cap (.int .i64 ((k : Int) + j * 4 + 1 + 1 + 1 + 1)) (.int .i64 ((j : Int) + 1))
      ((((w1.setCell ⟨g, j * 4, none⟩ (.int .i64 ((k : Int) + j * 4))).setCell ⟨g, j * 4 + 1, none⟩ (.int .i64 ((k : Int) + j * 4 + 1))).setCell ⟨g, j * 4 + 2, none⟩ (.int .i64 ((k : Int) + j * 4 + 1 + 1))).setCell ⟨g, j * 4 + 3, none⟩ (.int .i64 ((k : Int) + j * 4 + 1 + 1 + 1))) := by
  refine ⟨j + 1, hj, by go_num, by go_num, ?_, grownBy_trans hg (grownBy_trans (grownBy_trans (grownBy_trans (grownBy_setCell _ ⟨g, _, none⟩ _) (grownBy_setCell _ ⟨g, _, none⟩ _)) (grownBy_setCell _ ⟨g, _, none⟩ _)) (grownBy_setCell _ ⟨g, _, none⟩ _))⟩
  have := h.stored4 (j * 4) ((k : Int) + j * 4) ((k : Int) + j * 4 + 1) ((k : Int) + j * 4 + 1 + 1) ((k : Int) + j * 4 + 1 + 1 + 1)
  obtain ⟨x0, x1, x2, x3, hd⟩ := drop4 xs (j * 4) (by omega)
  rw [hd, set4 _ _ _ _ _ _ _ _ _ _ _ (marksI_len _ _)] at this
  rw [show (j + 1) * 4 = j * 4 + 4 from by omega, marksI_four, List.append_assoc]
  have e1 : ((k + j * 4 : Nat) : Int) = (k : Int) + j * 4 := by omega
  have e2 : ((k + j * 4 + 1 : Nat) : Int) = (k : Int) + j * 4 + 1 := by omega
  have e3 : ((k + j * 4 + 2 : Nat) : Int) = (k : Int) + j * 4 + 1 + 1 := by omega
  have e4 : ((k + j * 4 + 3 : Nat) : Int) = (k : Int) + j * 4 + 1 + 1 + 1 := by omega
  rw [e1, e2, e3, e4]
  exact this

set_option maxRecDepth 100000 in
set_option maxHeartbeats 400000 in
theorem markP_some (g n cap k base : Nat) (xs : List Int) (w : World) (hk2 : k ≤ 100000000) (hn2 : n ≤ 10000000) (h : OwnP base w (.slice (some ⟨g, 0, none⟩) n cap) n xs) :
    Calls Try.prog 37 #[.slice (some ⟨g, 0, none⟩) n cap, .int .i64 k] w (fun e w' => e = .returned (.int .i64 (k + n * 4 : Nat)) ∧ OwnP base w' (.slice (some ⟨g, 0, none⟩) n cap) n (marksI k (n * 4)) ∧ w.grownBy w' (some g)) := by
  have HL := Lib.hid h.len
  have HH := Lib.hid h
  clear h
  go_enter Try.func37, Try.ntmps37
  go_wp2_with fail
  go_loopw [1, 5] (fun q i wr => MarkRelP k n xs w base g cap q i wr) (fun _ i _ => n - (intOf i).toNat)
  case atStart => exact ⟨0, by omega, rfl, rfl, by simpa [marksI] using HH.out, grownBy_refl _ _⟩
  case round =>
    obtain ⟨j, hj, rfl, rfl, hown, hg⟩ := hrel
    by_cases hlt : j < n
    · have HR := Lib.hid (markP_rel HL.out hlt hown hg)
      have hfz := hown.frozen
      obtain ⟨y, d0, d1, d2, d3⟩ := hown.some4 j hlt
      clear hown
      go_wp2_with fail
      go_roundw
      case rel => exact HR.out
      case measure => simp [intOf]; omega
    · obtain rfl : j = n := by omega
      have e := HL.out
      rw [List.drop_of_length_le (by omega), List.append_nil] at hown
      have HO := Lib.hid hown
      clear hown e
      go_wp2_with fail
      go_ret
      exact ⟨rfl, HO.out, hg⟩

theorem markP_none (k : Int) (w : World) : Calls Try.prog 37 #[.slice none 0 0, .int .i64 k] w (fun e w' => e = .returned (.int .i64 k) ∧ w = w') := by
  go_enter Try.func37, Try.ntmps37
  go_wp2_with fail
  refine wp_loop_rounds 1 ?_; rw [rounds_succ]
  go_wp2_with fail
  go_ret
  exact ⟨rfl, rfl⟩

/-- Whatever row of instructions the call owns: behind the marking it holds the marks; nothing else has turned. -/
theorem markP_any (v : Value) (k n base : Nat) (xs : List Int) (w : World) (hk2 : k ≤ 100000000) (hn2 : n ≤ 10000000) (h : OwnP base w v n xs) :
    Calls Try.prog 37 #[v, .int .i64 k] w (fun e w' => e = .returned (.int .i64 (k + n * 4 : Nat)) ∧ OwnP base w' v n (marksI k (n * 4)) ∧ w.grownBy w' v.ownBlock) := by
  rcases h.2 with ⟨h1, h2⟩ | ⟨g, cap, cur, h1, _⟩
  · subst h1
    subst h2
    refine (markP_none k w).mono ?_
    rintro e w' ⟨rfl, rfl⟩
    exact ⟨by simp, OwnP.nil _ _, grownBy_refl _ _⟩
  · subst h1
    exact markP_some g n cap k base xs w hk2 hn2 h

theorem szP_any (a : Option Addr) (n cap : Nat) (left : Int) (w : World) (h0 : 0 ≤ left) (h1 : left ≤ 1048576) (hn : n ≤ 9223372036854775807) :
    Calls Try.prog 30 #[.slice a n cap, .int .i64 left] w (fun e w' => e = .returned (.int .i64 (if left < (n : Int) then -1 else left - n)) ∧ w = w') := by
  by_cases hlt : left < (n : Int)
  · rw [if_pos hlt]
    go_enter Try.func30, Try.ntmps30
    go_wp2_with fail
    go_ret
    exact ⟨rfl, rfl⟩
  · rw [if_neg hlt]
    go_enter Try.func30, Try.ntmps30
    go_wp2_with fail
    go_ret
    exact ⟨rfl, rfl⟩

end Go.Proofs.Ytmiopbpahkgmbaa
