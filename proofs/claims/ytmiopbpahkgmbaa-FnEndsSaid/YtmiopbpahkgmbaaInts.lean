/- Rows of numbers: one that is only read, one that a call owns; what the exact laws do with them: copy one, compare two, write marks into one, look whether they are held. -/
import Derived.Test.YtmiopbpahkgmbaaBase
import Derived.Test.YtmiopbpahkgmbaaChecked
import Derived.LoopTactic
import Derived.OwnWalk
import Derived.Laws.OwnMore
import Derived.WalkSpells
namespace Go.Proofs.Ytmiopbpahkgmbaa
open Go.RowKit Go

def i64R (x : Int) : Prop := -9223372036854775808 ≤ x ∧ x ≤ 9223372036854775807
theorem i64R_of {x : Int} (h : (Lit.int .i64 x).wf = true) : i64R x := bounds_i64 h

/-- The slice at a reads as the numbers xs; it lies below block B. -/
def Nums (B : Nat) (w : World) (a : Option Addr) (xs : List Int) : Prop :=
  (∀ x ∈ xs, i64R x) ∧ ∀ j (h : j < xs.length), ∃ g off, a = some ⟨g, off, none⟩ ∧ g < B ∧ w.cell? ⟨g, off + j, none⟩ = some (.int .i64 xs[j])

theorem Nums.rng {B : Nat} {w : World} {a : Option Addr} {xs : List Int} (h : Nums B w a xs) (j : Nat) (hj : j < xs.length) : i64R xs[j] := h.1 _ (List.getElem_mem hj)

theorem Nums.kept {B : Nat} {w w' : World} {a : Option Addr} {xs : List Int} (h : Nums B w a xs) (hb : Below B w w') : Nums B w' a xs :=
  ⟨h.1, fun j hj => by
    obtain ⟨g, off, ha, hg, hc⟩ := h.2 j hj
    exact ⟨g, off, ha, hg, by rw [World.cell?_of_block (w := w) (hb.block g hg)]; exact hc⟩⟩

theorem Nums.more {B B' : Nat} {w : World} {a : Option Addr} {xs : List Int} (h : Nums B w a xs) (hb : B ≤ B') : Nums B' w a xs :=
  ⟨h.1, fun j hj => by
    obtain ⟨g, off, ha, hg, hc⟩ := h.2 j hj
    exact ⟨g, off, ha, by omega, hc⟩⟩

theorem Nums.nil (B : Nat) (w : World) (a : Option Addr) : Nums B w a [] := ⟨(fun _ h => by cases h), (fun j h => absurd h (by simp))⟩

/-- An argument's row, as the numbers that it reads as. -/
theorem IsRow.nums {w : World} {a : Option Addr} {len cap : Nat} {zs : List Int} (h : IsRow .i64 w a len cap zs) : ∃ xs : List Int, len = xs.length ∧ len ≤ maxLen ∧ Nums w.heap.size w a xs := by
  rcases h with ⟨rfl, rfl, rfl, rfl⟩ | ⟨x, rfl, hl, hm, hz, hc, hw⟩
  · exact ⟨[], rfl, by unfold maxLen; omega, Nums.nil _ _ _⟩
  · have hlen : (zs.take len).length = len := by rw [List.length_take]; omega
    refine ⟨zs.take len, hlen.symm, by omega, fun x hx => bounds_i64 (hw x (List.mem_of_mem_take hx)), fun j hj => ?_⟩
    obtain ⟨b, off, rfl, hc'⟩ := ints_at hc (by omega)
    have hj' := hc' j (by omega)
    refine ⟨b, off, rfl, World.block_lt_of_cell? w _ hj', ?_⟩
    rw [hj', List.getElem_take, List.getD_eq_getElem?_getD, List.getElem?_eq_getElem (by omega)]
    rfl

/-- A row of numbers that the call owns, from block B on. -/
def Own (B : Nat) (w : World) (v : Value) (xs : List Int) : Prop := w.ownsRow B 3 1 v xs.length (xs.map (.int .i64))

theorem Own.form {B : Nat} {w : World} {v : Value} {xs : List Int} (h : Own B w v xs) : ∃ (a : Option Addr) (cap : Nat), v = .slice a xs.length cap := by
  rcases h.2 with ⟨h1, h2⟩ | ⟨g, cap, cur, h1, _⟩
  · exact ⟨none, 0, by rw [h1, h2]⟩
  · exact ⟨_, cap, h1⟩
theorem Own.below {B : Nat} {w w' : World} {v : Value} {xs : List Int} (h : Own B w v xs) (hb : Below w.heap.size w w') : Own B w' v xs :=
  World.ownsRow.kept h (row := none) ⟨hb.os, hb.tape, hb.output, hb.size, fun k hk _ => hb.block k hk⟩ (by cases hv : v.ownBlock <;> simp)
theorem Own.alloc {B : Nat} {w : World} {v : Value} {xs : List Int} (h : Own B w v xs) (o : Obj) : Own B (w.alloc o) v xs := World.ownsRow.alloc h o
theorem Own.nil (B : Nat) (w : World) : Own B w (.slice none 0 0) [] := World.ownsRow_nil _ _ _ _

theorem Own.cell {B : Nat} {w : World} {a : Option Addr} {n cap : Nat} {xs : List Int} (h : Own B w (.slice a n cap) xs) (k : Nat) (hk : k < xs.length) : ∃ g, a = some ⟨g, 0, none⟩ ∧ B ≤ g ∧ g < w.heap.size ∧ w.cell? ⟨g, k, none⟩ = some (.int .i64 xs[k]) := by
  rcases h.2 with ⟨h1, h2⟩ | ⟨g, cap', cur, h1, _⟩
  · rw [h2] at hk; simp at hk
  · simp only [Value.slice.injEq] at h1
    obtain ⟨rfl, rfl, rfl⟩ := h1
    have hlt := World.ownsRow.lt h g rfl
    have hc := World.ownsRow.cellAt h k (by simpa using hk)
    refine ⟨g, rfl, hlt.1, hlt.2, ?_⟩
    rw [hc, List.getElem?_map, List.getElem?_eq_getElem hk]
    rfl

theorem Own.nums {B B' : Nat} {w : World} {a : Option Addr} {n cap : Nat} {xs : List Int} (h : Own B w (.slice a n cap) xs) (hx : ∀ x ∈ xs, i64R x) (hB : w.heap.size ≤ B') : Nums B' w a xs :=
  ⟨hx, fun j hj => by
    obtain ⟨g, rfl, _, hlt, hc⟩ := h.cell j hj
    exact ⟨g, 0, rfl, by omega, by rw [Nat.zero_add]; exact hc⟩⟩

theorem Own.stored {B : Nat} {w : World} {g n cap : Nat} {xs : List Int} (h : Own B w (.slice (some ⟨g, 0, none⟩) n cap) xs) (j : Nat) (t : Int) :
    Own B (w.setCell ⟨g, j, none⟩ (.int .i64 t)) (.slice (some ⟨g, 0, none⟩) n cap) (xs.set j t) := by
  obtain ⟨a, c, hv⟩ := h.form
  have hn : n = xs.length := by simp only [Value.slice.injEq] at hv; exact hv.2.1
  subst hn
  have := (World.ownsRow.stored h j (.int .i64 t)).1
  unfold Own
  rw [List.length_set, List.map_set]
  exact this

theorem info_int : (Try.prog.info? 3).map (fun i => (i.zero, i.size, i.bytes)) = some (some (.int .i64 0), 1, 8) := by kernel_rfl

theorem fill_set {α : Type} (us : List α) (z : α) (k : Nat) (h : k < us.length) : (us.take k ++ List.replicate (us.length - k) z).set k us[k] = us.take (k + 1) ++ List.replicate (us.length - (k + 1)) z := by
  have e : us.length - k = (us.length - (k + 1)) + 1 := by omega
  have hl : (us.take k).length = k := by rw [List.length_take]; omega
  rw [List.set_append_right _ _ (by omega), hl, Nat.sub_self, e, List.replicate_succ, List.set_cons_zero, List.take_succ_eq_append_getElem h, List.append_assoc]
  rfl

/-- After k rounds of copying. -/
def CopyRel (xs : List Int) (W : World) (i : Value) (wr : World) : Prop :=
  ∃ k : Nat, k ≤ xs.length ∧ i = .int .i64 k ∧ Own W.heap.size wr (.slice (some ⟨W.heap.size, 0, none⟩) xs.length xs.length) (xs.take k ++ List.replicate (xs.length - k) 0) ∧ Below W.heap.size W wr

theorem copy_start {xs : List Int} {W w1 : World} (h : w1.ownsRow W.heap.size 3 1 (.slice (some ⟨W.heap.size, 0, none⟩) xs.length xs.length) xs.length (madeCells (Value.int .i64 0).cells (xs.length * 1)).toList) (hg : W.grownBy w1 none) : CopyRel xs W (.int .i64 0) w1 := by
  refine ⟨0, Nat.zero_le _, rfl, ?_, grownBy_below hg (Nat.le_refl _) (fun _ e => by cases e)⟩
  have e : (madeCells (Value.int .i64 0).cells (xs.length * 1)).toList = (List.replicate xs.length (0 : Int)).map (.int .i64) := by
    rw [Nat.mul_one]
    show (madeCells #[Value.int .i64 0] xs.length).toList = _
    rw [toList_madeCells_one, List.map_replicate]
  rw [e] at h
  unfold Own
  rw [List.take_zero, List.nil_append, Nat.sub_zero, List.length_replicate]
  exact h

theorem copy_step {xs : List Int} {W wr : World} {k : Nat} (hk : k < xs.length) (ho : Own W.heap.size wr (.slice (some ⟨W.heap.size, 0, none⟩) xs.length xs.length) (xs.take k ++ List.replicate (xs.length - k) 0)) (hb : Below W.heap.size W wr) :
    CopyRel xs W (.int .i64 ((k : Int) + 1)) (wr.setCell ⟨W.heap.size, k, none⟩ (.int .i64 xs[k])) :=
  ⟨k + 1, hk, by go_num, by rw [← fill_set xs 0 k hk]; exact ho.stored k _, hb.setCell (Nat.le_refl _) _⟩

set_option maxRecDepth 100000 in
set_option maxHeartbeats 400000 in
theorem toIntS_any (B : Nat) (w : World) (a : Option Addr) (xs : List Int) (cap : Nat) (hl : xs.length ≤ 1048576) (h : Nums B w a xs) (hB : B ≤ w.heap.size) :
    Calls Try.prog 75 #[.slice a xs.length cap] w (fun e w' => e = .returned (.slice (some ⟨w.heap.size, 0, none⟩) xs.length xs.length) ∧ Own w.heap.size w' (.slice (some ⟨w.heap.size, 0, none⟩) xs.length xs.length) xs ∧ Below w.heap.size w w') := by
  obtain ⟨i0, hi, hz0, hz1, hz2⟩ := info_parts info_int
  have HH := Lib.hid h
  clear h
  have hm : xs.length ≤ maxLen := by unfold maxLen; omega
  go_enter Try.func75, Try.ntmps75
  go_wp2_with (at_make; refine wpList_make_full _ rfl _ _ _ rfl w.heap.size 3 i0 (.int .i64 0) 1 Try.underlying25 hi hz0 hz1 .i64 .i64 _ _ xs.length rfl rfl rfl rfl (by rw [hz2]; omega) hm (Nat.le_refl _) ?_; intro w1 hown hgrow)
  have hst := copy_start hown hgrow
  have HS := Lib.hid hst
  clear hst hown hgrow
  go_wp2_with fail
  go_loopw [4] (fun i wr => CopyRel xs w i wr) (fun i _ => xs.length - (intOf i).toNat)
  case atStart => exact HS.out
  case round =>
    obtain ⟨k, hk, rfl, hown, hbel⟩ := hrel
    have hsz := hbel.size
    by_cases hlt : k < xs.length
    · obtain ⟨g, off, rfl, hg, hc⟩ := (HH.out.kept (w' := wr) ⟨hbel.os, hbel.tape, hbel.output, hbel.size, fun k hk => hbel.block k (by omega)⟩).2 k hlt
      have HN := Lib.hid (copy_step hlt hown hbel)
      have hlen : (xs.take k ++ List.replicate (xs.length - k) (0 : Int)).length = xs.length := by simp; omega
      obtain ⟨g', hg', _, _, hc2⟩ := hown.cell k (by rw [hlen]; exact hlt)
      obtain rfl : w.heap.size = g' := by injection hg' with e; injection e
      generalize (xs.take k ++ List.replicate (xs.length - k) (0 : Int))[k] = y at hc2
      have hfz : wr.frozen? ⟨w.heap.size, k, none⟩ = false := by
        have := hown
        unfold Own at this
        rw [hlen] at this
        exact World.ownsRow.frozenAt this k
      obtain ⟨x, hx⟩ : ∃ x, x = xs[k] := ⟨_, rfl⟩
      rw [← hx] at hc HN
      clear hx hg' hlen hown
      go_wp2_with fail
      go_roundw
      case rel => exact HN.out
      case measure => simp [intOf]; omega
    · obtain rfl : k = xs.length := by omega
      rw [List.take_length, Nat.sub_self, List.replicate_zero, List.append_nil] at hown
      have HO := Lib.hid hown
      clear hown
      go_wp2_with fail
      go_ret
      exact ⟨rfl, HO.out, hbel⟩

set_option maxRecDepth 100000 in
set_option maxHeartbeats 400000 in
theorem eqI_same (a1 a2 : Option Addr) (B1 B2 : Nat) (c1 c2 : Nat) (xs : List Int) (w : World) (hl : xs.length ≤ 10000000) (h1 : Nums B1 w a1 xs) (h2 : Nums B2 w a2 xs) : Calls Try.prog 45 #[.slice a1 xs.length c1, .slice a2 xs.length c2] w (fun e w' => e = .returned (.bool true) ∧ ∃ m, w' = w.drewN m) := by
  have H1 := Lib.hid h1
  have H2 := Lib.hid h2
  clear h1 h2
  go_enter Try.func45, Try.ntmps45
  go_wp2_with fail
  go_loopw [5] (fun i wr => ∃ k m : Nat, k ≤ xs.length ∧ i = .int .i64 k ∧ wr = w.drewN m) (fun i _ => xs.length - (intOf i).toNat)
  case atStart => exact ⟨0, 0, by omega, rfl, rfl⟩
  case round =>
    obtain ⟨k, m, hk, rfl, rfl⟩ := hrel
    by_cases hlt : k < xs.length
    · obtain ⟨g1, o1, rfl, _, hc1⟩ := H1.out.2 k hlt
      obtain ⟨g2, o2, rfl, _, hc2⟩ := H2.out.2 k hlt
      generalize xs[k] = x at *
      go_wp2_with fail
      go_quiet (fail)
      go_wp2_with fail
      go_roundw
      case rel => exact ⟨k + 1, _, by omega, by go_num, rfl⟩
      case measure => simp [intOf]; omega
    · obtain rfl : k = xs.length := by omega
      go_wp2_with fail
      go_ret
      exact ⟨rfl, _, rfl⟩

theorem below_drewN (B : Nat) (w : World) (n : Nat) : Below B w (w.drewN n) := ⟨rfl, rfl, rfl, Nat.le_refl _, fun _ _ => rfl⟩

/-- The numbers k, k+1, .. -/
def marksI (k n : Nat) : List Int := (List.range n).map fun i => ((k + i : Nat) : Int)
theorem marksI_len (k n : Nat) : (marksI k n).length = n := by unfold marksI; simp
theorem marksI_snoc (k n : Nat) : marksI k (n + 1) = marksI k n ++ [((k + n : Nat) : Int)] := by
  unfold marksI; rw [List.range_succ, List.map_append]; rfl
theorem marksI_at (k n j : Nat) (h : j < (marksI k n).length) : (marksI k n)[j] = ((k + j : Nat) : Int) := by
  have h' : j < ((List.range n).map fun i => ((k + i : Nat) : Int)).length := h
  show ((List.range n).map fun i => ((k + i : Nat) : Int))[j]'h' = _
  simp

/-- After j rounds of marking. -/
def MarkRelI (k : Nat) (xs : List Int) (W : World) (base g cap : Nat) (q i : Value) (wr : World) : Prop :=
  ∃ j : Nat, j ≤ xs.length ∧ i = .int .i64 j ∧ q = .int .i64 (k + j : Nat) ∧ Own base wr (.slice (some ⟨g, 0, none⟩) xs.length cap) (marksI k j ++ xs.drop j) ∧ W.grownBy wr (some g)

theorem markI_set {k j : Nat} {xs : List Int} (h : j < xs.length) : (marksI k j ++ xs.drop j).set j ((k + j : Nat) : Int) = marksI k (j + 1) ++ xs.drop (j + 1) := by
  rw [List.set_append_right _ _ (by rw [marksI_len]; omega), marksI_len, Nat.sub_self, List.drop_eq_getElem_cons h, List.set_cons_zero, marksI_snoc, List.append_assoc]
  rfl

theorem markI_rel {k j : Nat} {xs : List Int} {W w1 : World} {base g cap : Nat} (hj : j < xs.length) (h : Own base w1 (.slice (some ⟨g, 0, none⟩) xs.length cap) (marksI k j ++ xs.drop j)) (hg : W.grownBy w1 (some g)) :
    MarkRelI k xs W base g cap (.int .i64 ((k : Int) + j + 1)) (.int .i64 ((j : Int) + 1)) (w1.setCell ⟨g, j, none⟩ (.int .i64 ((k : Int) + j))) :=
  ⟨j + 1, hj, by go_num, by go_num, by rw [← markI_set hj]; exact h.stored j _, grownBy_trans hg (grownBy_setCell _ ⟨g, j, none⟩ _)⟩

set_option maxRecDepth 100000 in
set_option maxHeartbeats 400000 in
theorem markI_some (g cap k base : Nat) (xs : List Int) (w : World) (hk2 : k ≤ 100000000) (hn2 : xs.length ≤ 10000000) (h : Own base w (.slice (some ⟨g, 0, none⟩) xs.length cap) xs) :
    Calls Try.prog 46 #[.slice (some ⟨g, 0, none⟩) xs.length cap, .int .i64 k] w (fun e w' => e = .returned (.int .i64 (k + xs.length : Nat)) ∧ Own base w' (.slice (some ⟨g, 0, none⟩) xs.length cap) (marksI k xs.length) ∧ w.grownBy w' (some g)) := by
  have HH := Lib.hid h
  clear h
  go_enter Try.func46, Try.ntmps46
  go_wp2_with fail
  go_loopw [1, 5] (fun q i wr => MarkRelI k xs w base g cap q i wr) (fun _ i _ => xs.length - (intOf i).toNat)
  case atStart => exact ⟨0, by omega, rfl, rfl, by simpa [marksI] using HH.out, grownBy_refl _ _⟩
  case round =>
    obtain ⟨j, hj, rfl, rfl, hown, hg⟩ := hrel
    by_cases hlt : j < xs.length
    · have hlen : (marksI k j ++ xs.drop j).length = xs.length := by rw [List.length_append, marksI_len, List.length_drop]; omega
      have HR := Lib.hid (markI_rel hlt hown hg)
      obtain ⟨g', hg', _, _, hc⟩ := hown.cell j (by rw [hlen]; exact hlt)
      obtain rfl : g = g' := by injection hg' with e; injection e
      have hfz : wr.frozen? ⟨g, j, none⟩ = false := World.ownsRow.frozenAt (by have := hown; unfold Own at this; rw [hlen] at this; exact this) j
      generalize (marksI k j ++ xs.drop j)[j] = x at hc
      clear hown hlen hg'
      go_wp2_with fail
      go_roundw
      case rel => exact HR.out
      case measure => simp [intOf]; omega
    · obtain rfl : j = xs.length := by omega
      rw [List.drop_length, List.append_nil] at hown
      have HO := Lib.hid hown
      clear hown
      go_wp2_with fail
      go_ret
      exact ⟨rfl, HO.out, hg⟩

set_option maxRecDepth 100000 in
set_option maxHeartbeats 400000 in
theorem heldI_some (g cap k n base : Nat) (w : World) (hk2 : k ≤ 100000000) (hn2 : n ≤ 10000000) (h : Own base w (.slice (some ⟨g, 0, none⟩) n cap) (marksI k n)) :
    Calls Try.prog 47 #[.slice (some ⟨g, 0, none⟩) n cap, .int .i64 k] w (fun e w' => e = .returned (.int .i64 (k + n : Nat)) ∧ ∃ m, w' = w.drewN m) := by
  have HH := Lib.hid h
  clear h
  go_enter Try.func47, Try.ntmps47
  go_wp2_with fail
  go_loopw [1, 5] (fun q i wr => ∃ j m : Nat, j ≤ n ∧ i = .int .i64 j ∧ q = .int .i64 (k + j : Nat) ∧ wr = w.drewN m) (fun _ i _ => n - (intOf i).toNat)
  case atStart => exact ⟨0, 0, by omega, rfl, rfl, rfl⟩
  case round =>
    obtain ⟨j, m, hj, rfl, rfl, rfl⟩ := hrel
    by_cases hlt : j < n
    · obtain ⟨g', hg', _, _, hc⟩ := HH.out.cell j (by rw [marksI_len]; exact hlt)
      obtain rfl : g = g' := by injection hg' with e; injection e
      rw [marksI_at] at hc
      clear hg'
      go_wp2_with fail
      go_roundw
      case rel => exact ⟨j + 1, _, by omega, by go_num, by go_num, rfl⟩
      case measure => simp [intOf]; omega
    · obtain rfl : j = n := by omega
      go_wp2_with fail
      go_ret
      exact ⟨rfl, _, rfl⟩

theorem markI_none (k : Int) (w : World) : Calls Try.prog 46 #[.slice none 0 0, .int .i64 k] w (fun e w' => e = .returned (.int .i64 k) ∧ w = w') := by
  go_enter Try.func46, Try.ntmps46
  go_wp2_with fail
  refine wp_loop_rounds 1 ?_; rw [rounds_succ]
  go_wp2_with fail
  go_ret
  exact ⟨rfl, rfl⟩

theorem heldI_none (k : Int) (w : World) : Calls Try.prog 47 #[.slice none 0 0, .int .i64 k] w (fun e w' => e = .returned (.int .i64 k) ∧ w = w') := by
  go_enter Try.func47, Try.ntmps47
  go_wp2_with fail
  refine wp_loop_rounds 1 ?_; rw [rounds_succ]
  go_wp2_with fail
  go_ret
  exact ⟨rfl, rfl⟩

/-- Whatever row of numbers the call owns: behind the marking it holds the marks; nothing else has turned. -/
theorem markI_any (v : Value) (k base : Nat) (xs : List Int) (w : World) (hk2 : k ≤ 100000000) (hn2 : xs.length ≤ 10000000) (h : Own base w v xs) :
    Calls Try.prog 46 #[v, .int .i64 k] w (fun e w' => e = .returned (.int .i64 (k + xs.length : Nat)) ∧ Own base w' v (marksI k xs.length) ∧ w.grownBy w' v.ownBlock) := by
  rcases h.2 with ⟨h1, h2⟩ | ⟨g, cap, cur, h1, _⟩
  · subst h1
    refine (markI_none k w).mono ?_
    rintro e w' ⟨rfl, rfl⟩
    rw [h2]
    exact ⟨rfl, World.ownsRow_nil _ _ _ _, grownBy_refl _ _⟩
  · subst h1
    exact markI_some g cap k base xs w hk2 hn2 h

theorem heldI_any (v : Value) (k n base : Nat) (w : World) (hk2 : k ≤ 100000000) (hn2 : n ≤ 10000000) (h : Own base w v (marksI k n)) :
    Calls Try.prog 47 #[v, .int .i64 k] w (fun e w' => e = .returned (.int .i64 (k + n : Nat)) ∧ ∃ m, w' = w.drewN m) := by
  rcases h.2 with ⟨h1, h2⟩ | ⟨g, cap, cur, h1, _⟩
  · subst h1
    rw [marksI_len] at h2
    subst h2
    exact (heldI_none k w).mono fun e w' ⟨he, hw⟩ => ⟨he, 0, hw.symm⟩
  · rw [marksI_len] at h1
    subst h1
    exact heldI_some g cap k n base w hk2 hn2 h

/-- A row that lies wholly below another one's base stays while that one is written. -/
theorem Own.apart {w w' : World} {b1 b2 : Nat} {v1 v2 : Value} {xs ys : List Int} (h : Own b1 w v1 xs) (hlt : ∀ g, v1.ownBlock = some g → g < b2) (h2 : Own b2 w v2 ys) (hg : w.grownBy w' v2.ownBlock) : Own b1 w' v1 xs := by
  refine World.ownsRow.kept h hg ?_
  cases hv : v1.ownBlock with
  | none => exact .inl rfl
  | some g =>
    refine .inr fun e => ?_
    have := hlt g hv
    have := (World.ownsRow.lt h2 g e.symm).1
    omega

end Go.Proofs.Ytmiopbpahkgmbaa
