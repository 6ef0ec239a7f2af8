/- Any drawn instruction. -/
import Derived.Test.YtedcdfcamomcaaaDoorDrawIns2
namespace Go.Proofs.YtedcdfcamomcaaaDoor
open Go.RowKit Go

/-- Behind a store of a whole instruction into E. -/
theorem ins_row {base B E D : Nat} {w w3 : World} {es ds es' : Array Value} (hE : Blk w3 E es) (hD : Blk w3 D ds) (hG : w.grownBy w3 (some B)) (hC : Cur base w3 B) (h1 : E ≠ B) (h2 : E ≠ D) (h3 : w.heap.size ≤ E) (h4 : base ≤ E) :
    Hid (Blk (w3.setRow E es') E es') ∧ Hid (Blk (w3.setRow E es') D ds) ∧ Hid (w.grownBy (w3.setRow E es') (some B)) ∧ Hid (Cur base (w3.setRow E es') B) :=
  ⟨hE.setRow es', hD.grown (grownBy_setRow _ _ _) (by intro e; cases e; exact h2 rfl), grownBy_new hG (grownBy_setRow _ _ _) h3, hC.kept (grownBy_setRow _ _ _) (fun k e => by cases e; exact ⟨h4, h1⟩)⟩

def anyP (o a b c : Int) : Prop := -1 ≤ o ∧ o ≤ 17 ∧ -1 ≤ a ∧ a ≤ 4 ∧ -1 ≤ b ∧ b ≤ 65536 ∧ -1 ≤ c ∧ c ≤ 4

set_option maxHeartbeats 4000000 in
theorem any_any {base B : Nat} (w : World) (hc : Cur base w B) (hbw : base ≤ w.heap.size) : Calls Tryd.prog 14 #[.pointer (some ⟨B, 0, none⟩)] w (InsDrew base B anyP w) := by
  have hBlt := hc.lt
  have D0 := Lib.hid (Blk.new w (insC 0 0 0 0) _ rfl)
  go_enter Tryd.func14, Tryd.ntmps14
  go_wp2_with fail
  refine (plain_any _ (hc.alloc _) (by simp; omega)).mono ?_
  rintro e w1 ⟨o, a, b, c, hP, rfl, hc1, hg1⟩
  have hs : w.heap.size < w1.heap.size := by have := hg1.size; simp at this; omega
  have hA : anyP o a b c := by unfold plainP at hP; unfold anyP; omega
  have D1 := Lib.hid ((D0.out.grown hg1 (by intro e; cases e; omega)).alloc (.cells (insC o a b c) 25))
  have G1 := Lib.hid (grownBy_trans (grownBy_trans (World.grownBy_alloc w (.cells (insC 0 0 0 0) 25) _) hg1) (World.grownBy_alloc w1 (.cells (insC o a b c) 25) _))
  have C1 := Lib.hid (hc1.alloc (.cells (insC o a b c) 25))
  have E1 := Lib.hid (Blk.new w1 (insC o a b c) _ rfl)
  have hEB : w1.heap.size ≠ B := by have := hc1.lt; omega
  have hb1 : base ≤ w1.heap.size := by omega
  clear hg1 hc1 hP D0 hc
  go_wp2_with fail
  refine (once_any _ 4 (by omega) C1.out).mono ?_
  rintro e w2 ⟨x, rfl, hc2, hg2⟩
  obtain ⟨E2, D2, G2⟩ := ins_next E1.out D1.out G1.out hg2 hEB (by omega)
  have C2 := Lib.hid hc2
  have s2 : w1.heap.size < w2.heap.size := E2.out.lt
  clear hc2 hg2 C1 E1 D1 G1
  cases x with
  | false =>
    go_wp2_with fail
    refine (below_any _ 7 (by omega) C2.out).mono ?_
    rintro e w5 ⟨x, ⟨hx0, _, hx1⟩, rfl, hc5, hg5⟩
    have hx1 := hx1 (by omega)
    obtain ⟨E5, D5, G5⟩ := ins_next E2.out D2.out G2.out hg5 hEB (by omega)
    have C5 := Lib.hid hc5
    have s5 : w1.heap.size < w5.heap.size := E5.out.lt
    have eE5 := E5.out.cell
    have eF5 := E5.out.frozen
    clear hc5 hg5
    by_cases h0 : x = 0
    · subst h0
      go_wp2_with fail
      refine (below_any _ 19 (by omega) C5.out).mono ?_
      rintro e w6 ⟨z, ⟨hz0, _, hz1⟩, rfl, hc6, hg6⟩
      have hz1 := hz1 (by omega)
      obtain ⟨E6, D6, G6⟩ := ins_next E5.out D5.out G5.out hg6 hEB (by omega)
      have s6 : w1.heap.size < w6.heap.size := E6.out.lt
      have eE6 := E6.out.cell
      have eF6 := E6.out.frozen
      obtain ⟨E6a, D6a, G6a, C6a⟩ := ins_store (es' := insC (z - 1) a b c) E6.out D6.out G6.out hc6 0 (.int .i64 (z - 1)) rfl hEB (by omega) (by omega) (by omega)
      clear hc6 hg6 eE5 eF5
      go_wp2_with ((refine wpList_store_row rfl 25 (.tmp 2) (.tmp 36) rfl w.heap.size (insC (z - 1) a b c) rfl rfl 25 _ D6a.out (by kernel_rfl) rfl (insC_one _ _ _ _) ?_))
      obtain ⟨RB, RD⟩ := ins_end (P := anyP) (o := (z - 1)) (a := a) (b := b) (c := c) (by unfold anyP at *; omega) C6a.out D6a.out G6a.out (Nat.le_refl _) hbw hBlt
      have rC := RB.cell
      exact bodyPost_ret (v := .agg (insC (z - 1) a b c)) (by simp [results, Tryd.results14, go_sem, rC]) rfl RD
    · have h0' : (x == 0) = false := by simpa using h0
      by_cases h1 : x = 1
      · subst h1
        have HM := Lib.hid (NumBlock.made w5 [-1, 3, 4] 3)
        go_wp2_with fail
        refine (pickInt_any _ _ _ 3 (by rfl) (by omega) (by omega) (by have := C5.out.lt; omega) HM.out (C5.out.alloc _)).mono ?_
        rintro e w6 ⟨z, hz, rfl, hc6, hg6⟩
        simp only [List.mem_cons, List.not_mem_nil, or_false] at hz
        obtain ⟨E6, D6, G6⟩ := ins_next (E5.out.alloc _) (D5.out.alloc _) (grownBy_trans G5.out (World.grownBy_alloc _ _ _)) hg6 hEB (by omega)
        have s6 : w1.heap.size < w6.heap.size := E6.out.lt
        have eE6 := E6.out.cell
        have eF6 := E6.out.frozen
        obtain ⟨E6a, D6a, G6a, C6a⟩ := ins_store (es' := insC o z b c) E6.out D6.out G6.out hc6 1 (.int .i64 z) rfl hEB (by omega) (by omega) (by omega)
        clear hc6 hg6 eE5 eF5
        go_wp2_with ((refine wpList_store_row rfl 25 (.tmp 2) (.tmp 36) rfl w.heap.size (insC o z b c) rfl rfl 25 _ D6a.out (by kernel_rfl) rfl (insC_one _ _ _ _) ?_))
        obtain ⟨RB, RD⟩ := ins_end (P := anyP) (o := o) (a := z) (b := b) (c := c) (by unfold anyP at *; omega) C6a.out D6a.out G6a.out (Nat.le_refl _) hbw hBlt
        have rC := RB.cell
        exact bodyPost_ret (v := .agg (insC o z b c)) (by simp [results, Tryd.results14, go_sem, rC]) rfl RD
      · have h1' : (x == 1) = false := by simpa using h1
        by_cases h2 : x = 2
        · subst h2
          have HM := Lib.hid (NumBlock.made w5 [-1, 4, 32, 33, 65535, 65536] 3)
          go_wp2_with fail
          refine (pickInt_any _ _ _ 6 (by rfl) (by omega) (by omega) (by have := C5.out.lt; omega) HM.out (C5.out.alloc _)).mono ?_
          rintro e w6 ⟨z, hz, rfl, hc6, hg6⟩
          simp only [List.mem_cons, List.not_mem_nil, or_false] at hz
          obtain ⟨E6, D6, G6⟩ := ins_next (E5.out.alloc _) (D5.out.alloc _) (grownBy_trans G5.out (World.grownBy_alloc _ _ _)) hg6 hEB (by omega)
          have s6 : w1.heap.size < w6.heap.size := E6.out.lt
          have eE6 := E6.out.cell
          have eF6 := E6.out.frozen
          obtain ⟨E6a, D6a, G6a, C6a⟩ := ins_store (es' := insC o a z c) E6.out D6.out G6.out hc6 2 (.int .i64 z) rfl hEB (by omega) (by omega) (by omega)
          clear hc6 hg6 eE5 eF5
          go_wp2_with ((refine wpList_store_row rfl 25 (.tmp 2) (.tmp 36) rfl w.heap.size (insC o a z c) rfl rfl 25 _ D6a.out (by kernel_rfl) rfl (insC_one _ _ _ _) ?_))
          obtain ⟨RB, RD⟩ := ins_end (P := anyP) (o := o) (a := a) (b := z) (c := c) (by unfold anyP at *; omega) C6a.out D6a.out G6a.out (Nat.le_refl _) hbw hBlt
          have rC := RB.cell
          exact bodyPost_ret (v := .agg (insC o a z c)) (by simp [results, Tryd.results14, go_sem, rC]) rfl RD
        · have h2' : (x == 2) = false := by simpa using h2
          by_cases h3 : x = 3
          · subst h3
            have HM := Lib.hid (NumBlock.made w5 [-1, 0, 4] 3)
            go_wp2_with fail
            refine (pickInt_any _ _ _ 3 (by rfl) (by omega) (by omega) (by have := C5.out.lt; omega) HM.out (C5.out.alloc _)).mono ?_
            rintro e w6 ⟨z, hz, rfl, hc6, hg6⟩
            simp only [List.mem_cons, List.not_mem_nil, or_false] at hz
            obtain ⟨E6, D6, G6⟩ := ins_next (E5.out.alloc _) (D5.out.alloc _) (grownBy_trans G5.out (World.grownBy_alloc _ _ _)) hg6 hEB (by omega)
            have s6 : w1.heap.size < w6.heap.size := E6.out.lt
            have eE6 := E6.out.cell
            have eF6 := E6.out.frozen
            obtain ⟨E6a, D6a, G6a, C6a⟩ := ins_store (es' := insC o a b z) E6.out D6.out G6.out hc6 3 (.int .i64 z) rfl hEB (by omega) (by omega) (by omega)
            clear hc6 hg6 eE5 eF5
            go_wp2_with ((refine wpList_store_row rfl 25 (.tmp 2) (.tmp 36) rfl w.heap.size (insC o a b z) rfl rfl 25 _ D6a.out (by kernel_rfl) rfl (insC_one _ _ _ _) ?_))
            obtain ⟨RB, RD⟩ := ins_end (P := anyP) (o := o) (a := a) (b := b) (c := z) (by unfold anyP at *; omega) C6a.out D6a.out G6a.out (Nat.le_refl _) hbw hBlt
            have rC := RB.cell
            exact bodyPost_ret (v := .agg (insC o a b z)) (by simp [results, Tryd.results14, go_sem, rC]) rfl RD
          · have h3' : (x == 3) = false := by simpa using h3
            go_wp2_with ((refine wpList_store_row rfl 25 (.tmp 2) (.tmp 36) rfl w.heap.size (insC o a b c) rfl rfl 25 _ D5.out (by kernel_rfl) rfl (insC_one _ _ _ _) ?_))
            obtain ⟨RB, RD⟩ := ins_end (P := anyP) (o := o) (a := a) (b := b) (c := c) (by unfold anyP at *; omega) C5.out D5.out G5.out (Nat.le_refl _) hbw hBlt
            have rC := RB.cell
            exact bodyPost_ret (v := .agg (insC o a b c)) (by simp [results, Tryd.results14, go_sem, rC]) rfl RD
  | true =>
    go_wp2_with fail
    refine (mem_any _ C2.out (by omega)).mono ?_
    rintro e w3 ⟨o', a', b', c', hP, rfl, hc3, hg3⟩
    have hA' : anyP o' a' b' c' := by unfold memP at hP; unfold anyP; omega
    obtain ⟨E3, D3, G3⟩ := ins_next E2.out D2.out G2.out hg3 hEB (by omega)
    have C3 := Lib.hid hc3
    have s3 : w1.heap.size < w3.heap.size := E3.out.lt
    clear hc3 hg3 hP hA
    go_wp2_with ((refine wpList_store_row rfl 25 (.tmp 3) (.tmp 9) rfl w1.heap.size (insC o' a' b' c') rfl rfl 25 _ E3.out (by kernel_rfl) rfl (insC_one _ _ _ _) ?_))
    obtain ⟨E3a, D3a, G3a, C3a⟩ := ins_row (es' := insC o' a' b' c') E3.out D3.out G3.out C3.out hEB (by omega) (by omega) hb1
    go_wp2_with fail
    refine (below_any _ 7 (by omega) C3a.out).mono ?_
    rintro e w5 ⟨x, ⟨hx0, _, hx1⟩, rfl, hc5, hg5⟩
    have hx1 := hx1 (by omega)
    obtain ⟨E5, D5, G5⟩ := ins_next E3a.out D3a.out G3a.out hg5 hEB (by omega)
    have C5 := Lib.hid hc5
    have s5 : w1.heap.size < w5.heap.size := E5.out.lt
    have eE5 := E5.out.cell
    have eF5 := E5.out.frozen
    clear hc5 hg5
    by_cases h0 : x = 0
    · subst h0
      go_wp2_with fail
      refine (below_any _ 19 (by omega) C5.out).mono ?_
      rintro e w6 ⟨z, ⟨hz0, _, hz1⟩, rfl, hc6, hg6⟩
      have hz1 := hz1 (by omega)
      obtain ⟨E6, D6, G6⟩ := ins_next E5.out D5.out G5.out hg6 hEB (by omega)
      have s6 : w1.heap.size < w6.heap.size := E6.out.lt
      have eE6 := E6.out.cell
      have eF6 := E6.out.frozen
      obtain ⟨E6a, D6a, G6a, C6a⟩ := ins_store (es' := insC (z - 1) a' b' c') E6.out D6.out G6.out hc6 0 (.int .i64 (z - 1)) rfl hEB (by omega) (by omega) (by omega)
      clear hc6 hg6 eE5 eF5
      go_wp2_with ((refine wpList_store_row rfl 25 (.tmp 2) (.tmp 36) rfl w.heap.size (insC (z - 1) a' b' c') rfl rfl 25 _ D6a.out (by kernel_rfl) rfl (insC_one _ _ _ _) ?_))
      obtain ⟨RB, RD⟩ := ins_end (P := anyP) (o := (z - 1)) (a := a') (b := b') (c := c') (by unfold anyP at *; omega) C6a.out D6a.out G6a.out (Nat.le_refl _) hbw hBlt
      have rC := RB.cell
      exact bodyPost_ret (v := .agg (insC (z - 1) a' b' c')) (by simp [results, Tryd.results14, go_sem, rC]) rfl RD
    · have h0' : (x == 0) = false := by simpa using h0
      by_cases h1 : x = 1
      · subst h1
        have HM := Lib.hid (NumBlock.made w5 [-1, 3, 4] 3)
        go_wp2_with fail
        refine (pickInt_any _ _ _ 3 (by rfl) (by omega) (by omega) (by have := C5.out.lt; omega) HM.out (C5.out.alloc _)).mono ?_
        rintro e w6 ⟨z, hz, rfl, hc6, hg6⟩
        simp only [List.mem_cons, List.not_mem_nil, or_false] at hz
        obtain ⟨E6, D6, G6⟩ := ins_next (E5.out.alloc _) (D5.out.alloc _) (grownBy_trans G5.out (World.grownBy_alloc _ _ _)) hg6 hEB (by omega)
        have s6 : w1.heap.size < w6.heap.size := E6.out.lt
        have eE6 := E6.out.cell
        have eF6 := E6.out.frozen
        obtain ⟨E6a, D6a, G6a, C6a⟩ := ins_store (es' := insC o' z b' c') E6.out D6.out G6.out hc6 1 (.int .i64 z) rfl hEB (by omega) (by omega) (by omega)
        clear hc6 hg6 eE5 eF5
        go_wp2_with ((refine wpList_store_row rfl 25 (.tmp 2) (.tmp 36) rfl w.heap.size (insC o' z b' c') rfl rfl 25 _ D6a.out (by kernel_rfl) rfl (insC_one _ _ _ _) ?_))
        obtain ⟨RB, RD⟩ := ins_end (P := anyP) (o := o') (a := z) (b := b') (c := c') (by unfold anyP at *; omega) C6a.out D6a.out G6a.out (Nat.le_refl _) hbw hBlt
        have rC := RB.cell
        exact bodyPost_ret (v := .agg (insC o' z b' c')) (by simp [results, Tryd.results14, go_sem, rC]) rfl RD
      · have h1' : (x == 1) = false := by simpa using h1
        by_cases h2 : x = 2
        · subst h2
          have HM := Lib.hid (NumBlock.made w5 [-1, 4, 32, 33, 65535, 65536] 3)
          go_wp2_with fail
          refine (pickInt_any _ _ _ 6 (by rfl) (by omega) (by omega) (by have := C5.out.lt; omega) HM.out (C5.out.alloc _)).mono ?_
          rintro e w6 ⟨z, hz, rfl, hc6, hg6⟩
          simp only [List.mem_cons, List.not_mem_nil, or_false] at hz
          obtain ⟨E6, D6, G6⟩ := ins_next (E5.out.alloc _) (D5.out.alloc _) (grownBy_trans G5.out (World.grownBy_alloc _ _ _)) hg6 hEB (by omega)
          have s6 : w1.heap.size < w6.heap.size := E6.out.lt
          have eE6 := E6.out.cell
          have eF6 := E6.out.frozen
          obtain ⟨E6a, D6a, G6a, C6a⟩ := ins_store (es' := insC o' a' z c') E6.out D6.out G6.out hc6 2 (.int .i64 z) rfl hEB (by omega) (by omega) (by omega)
          clear hc6 hg6 eE5 eF5
          go_wp2_with ((refine wpList_store_row rfl 25 (.tmp 2) (.tmp 36) rfl w.heap.size (insC o' a' z c') rfl rfl 25 _ D6a.out (by kernel_rfl) rfl (insC_one _ _ _ _) ?_))
          obtain ⟨RB, RD⟩ := ins_end (P := anyP) (o := o') (a := a') (b := z) (c := c') (by unfold anyP at *; omega) C6a.out D6a.out G6a.out (Nat.le_refl _) hbw hBlt
          have rC := RB.cell
          exact bodyPost_ret (v := .agg (insC o' a' z c')) (by simp [results, Tryd.results14, go_sem, rC]) rfl RD
        · have h2' : (x == 2) = false := by simpa using h2
          by_cases h3 : x = 3
          · subst h3
            have HM := Lib.hid (NumBlock.made w5 [-1, 0, 4] 3)
            go_wp2_with fail
            refine (pickInt_any _ _ _ 3 (by rfl) (by omega) (by omega) (by have := C5.out.lt; omega) HM.out (C5.out.alloc _)).mono ?_
            rintro e w6 ⟨z, hz, rfl, hc6, hg6⟩
            simp only [List.mem_cons, List.not_mem_nil, or_false] at hz
            obtain ⟨E6, D6, G6⟩ := ins_next (E5.out.alloc _) (D5.out.alloc _) (grownBy_trans G5.out (World.grownBy_alloc _ _ _)) hg6 hEB (by omega)
            have s6 : w1.heap.size < w6.heap.size := E6.out.lt
            have eE6 := E6.out.cell
            have eF6 := E6.out.frozen
            obtain ⟨E6a, D6a, G6a, C6a⟩ := ins_store (es' := insC o' a' b' z) E6.out D6.out G6.out hc6 3 (.int .i64 z) rfl hEB (by omega) (by omega) (by omega)
            clear hc6 hg6 eE5 eF5
            go_wp2_with ((refine wpList_store_row rfl 25 (.tmp 2) (.tmp 36) rfl w.heap.size (insC o' a' b' z) rfl rfl 25 _ D6a.out (by kernel_rfl) rfl (insC_one _ _ _ _) ?_))
            obtain ⟨RB, RD⟩ := ins_end (P := anyP) (o := o') (a := a') (b := b') (c := z) (by unfold anyP at *; omega) C6a.out D6a.out G6a.out (Nat.le_refl _) hbw hBlt
            have rC := RB.cell
            exact bodyPost_ret (v := .agg (insC o' a' b' z)) (by simp [results, Tryd.results14, go_sem, rC]) rfl RD
          · have h3' : (x == 3) = false := by simpa using h3
            go_wp2_with ((refine wpList_store_row rfl 25 (.tmp 2) (.tmp 36) rfl w.heap.size (insC o' a' b' c') rfl rfl 25 _ D5.out (by kernel_rfl) rfl (insC_one _ _ _ _) ?_))
            obtain ⟨RB, RD⟩ := ins_end (P := anyP) (o := o') (a := a') (b := b') (c := c') (by unfold anyP at *; omega) C5.out D5.out G5.out (Nat.le_refl _) hbw hBlt
            have rC := RB.cell
            exact bodyPost_ret (v := .agg (insC o' a' b' c')) (by simp [results, Tryd.results14, go_sem, rC]) rfl RD

end Go.Proofs.YtedcdfcamomcaaaDoor
