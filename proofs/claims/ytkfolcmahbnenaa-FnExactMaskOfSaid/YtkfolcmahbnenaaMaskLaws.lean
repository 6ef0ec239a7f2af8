/- The exact laws of the masks: whatever the function is given, the program answers as the model. -/
import Derived.Test.YtkfolcmahbnenaaMaskRows
namespace Go.Proofs.Ytkfolcmahbnenaa
open Go.RowKit Go

set_option maxHeartbeats 400000 in
theorem fnExactIsMask_walk (n : Int) (_hn : (Lit.int .i64 n).wf = true) (w : World) : Calls Try.prog 4 #[.int .i64 n] w fun e w' => e = .returned (.bool true) ∧ Grown w w' := by
  have h1 := fun W => sIsMask_any n W
  have h2 := fun W => pIsMask_any n W
  obtain ⟨x, hx⟩ : ∃ x, x = isM n := ⟨_, rfl⟩
  rw [← hx] at h1 h2
  replace h1 := Lib.hid h1
  replace h2 := Lib.hid h2
  clear hx
  go_enter Try.func4, Try.ntmps4
  go_wp2_with fail
  refine (h1.out _).mono ?_
  rintro e w' ⟨rfl, rfl⟩
  go_wp2_with fail
  refine (h2.out _).mono ?_
  rintro e w' ⟨rfl, rfl⟩
  go_wp2_with fail
  go_ret
  exact ⟨rfl, Grown.refl _⟩

set_option maxHeartbeats 400000 in
theorem fnExactHasLane_walk (m l : Int) (_hm : (Lit.int .i64 m).wf = true) (_hl : (Lit.int .i64 l).wf = true) (w : World) : Calls Try.prog 5 #[.int .i64 m, .int .i64 l] w fun e w' => e = .returned (.bool true) ∧ Grown w w' := by
  have h1 := fun W => sHasLane_any m l W
  have h2 := fun W => pHasLane_any m l W
  obtain ⟨x, hx⟩ : ∃ x, x = hasL m l := ⟨_, rfl⟩
  rw [← hx] at h1 h2
  replace h1 := Lib.hid h1
  replace h2 := Lib.hid h2
  clear hx
  go_enter Try.func5, Try.ntmps5
  go_wp2_with fail
  refine (h1.out _).mono ?_
  rintro e w' ⟨rfl, rfl⟩
  go_wp2_with fail
  refine (h2.out _).mono ?_
  rintro e w' ⟨rfl, rfl⟩
  go_wp2_with fail
  go_ret
  exact ⟨rfl, Grown.refl _⟩

set_option maxHeartbeats 400000 in
theorem fnExactCountLanes_walk (m : Int) (_hm : (Lit.int .i64 m).wf = true) (w : World) : Calls Try.prog 6 #[.int .i64 m] w fun e w' => e = .returned (.bool true) ∧ Grown w w' := by
  have h1 := fun W => sCount_any m W
  have h2 := fun W => pCount_any m W
  obtain ⟨x, hx⟩ : ∃ x, x = cntL m := ⟨_, rfl⟩
  rw [← hx] at h1 h2
  replace h1 := Lib.hid h1
  replace h2 := Lib.hid h2
  clear hx
  go_enter Try.func6, Try.ntmps6
  go_wp2_with fail
  refine (h1.out _).mono ?_
  rintro e w' ⟨rfl, rfl⟩
  go_wp2_with fail
  refine (h2.out _).mono ?_
  rintro e w' ⟨rfl, rfl⟩
  go_wp2_with fail
  go_ret
  exact ⟨rfl, Grown.refl _⟩

set_option maxHeartbeats 400000 in
theorem fnExactSplitMask_walk (m o : Int) (_hm : (Lit.int .i64 m).wf = true) (_ho : (Lit.int .i64 o).wf = true) (w : World) : Calls Try.prog 9 #[.int .i64 m, .int .i64 o] w fun e w' => e = .returned (.bool true) ∧ Grown w w' := by
  have h1 := fun W => sSplit_any m o W
  have h2 := fun W => pSplit_any m o W
  obtain ⟨x, hx⟩ : ∃ x, x = splitA m o := ⟨_, rfl⟩
  obtain ⟨y, hy⟩ : ∃ y, y = splitB m o := ⟨_, rfl⟩
  rw [← hx, ← hy] at h1 h2
  replace h1 := Lib.hid h1
  replace h2 := Lib.hid h2
  clear hx hy
  go_enter Try.func9, Try.ntmps9
  go_wp2_with fail
  refine (h1.out _).mono ?_
  rintro e w' ⟨rfl, rfl⟩
  go_wp2_with fail
  refine (h2.out _).mono ?_
  rintro e w' ⟨rfl, rfl⟩
  go_wp2_with fail
  go_ret
  exact ⟨rfl, Grown.refl _⟩

set_option maxHeartbeats 400000 in
theorem fnExactMaskOf_walk (a : Option Addr) (len cap : Nat) (zs : List Int) (w : World) (hr : IsRow .i64 w a len cap zs) :
    Calls Try.prog 8 #[.slice a len cap] w fun e w' => e = .returned (.bool true) ∧ Below w.heap.size w w' := by
  obtain ⟨xs, rfl, hm, hn⟩ := hr.nums
  have hm' : xs.length ≤ 9223372036854775807 := by unfold maxLen at hm; omega
  have HN := Lib.hid hn
  clear hn hr hm
  by_cases hbig : 1048576 < xs.length
  · go_enter Try.func8, Try.ntmps8
    go_wp2_with fail
    go_ret
    exact ⟨rfl, Below.refl _ _⟩
  · have hs : xs.length ≤ 1048576 := by omega
    have hs2 : xs.length ≤ 10000000 := by omega
    have hrg : Hid (∀ x ∈ xs, i64R x) := Lib.hid HN.out.1
    have h1 := fun B w a cap (h : Nums B w a xs) => sMaskOf_any B w a xs cap hs2 h
    have h2 := fun B w a cap (h : Nums B w a xs) => pMaskOf_any B w a xs cap hs2 h
    obtain ⟨b, hb⟩ : ∃ b, b = xs.all isL := ⟨_, rfl⟩
    obtain ⟨x, hx⟩ : ∃ b, b = maskV xs := ⟨_, rfl⟩
    rw [← hb, ← hx] at h1 h2
    replace h1 := Lib.hid h1
    replace h2 := Lib.hid h2
    clear hb hx
    go_enter Try.func8, Try.ntmps8
    go_wp2_with fail
    refine (toIntS_any _ _ a xs cap hs HN.out (Nat.le_refl _)).mono ?_
    rintro e w1 ⟨rfl, o1, b1⟩
    have N1 := Lib.hid (o1.nums hrg.out (Nat.le_refl _))
    have H1 := Lib.hid (HN.out.kept b1)
    have s1 := b1.size
    clear o1
    go_wp2_with fail
    refine (h1.out _ _ _ _ N1.out).mono ?_
    rintro e w' ⟨rfl, rfl⟩
    go_wp2_with fail
    refine (toIntS_any _ _ a xs cap hs H1.out s1).mono ?_
    rintro e w2 ⟨rfl, o2, b2⟩
    have N2 := Lib.hid (o2.nums hrg.out (Nat.le_refl _))
    have H2 := Lib.hid (H1.out.kept (b2.mono s1))
    have O2 := Lib.hid o2
    have s2 := b2.size
    clear o2
    go_wp2_with fail
    refine (h2.out _ _ _ _ N2.out).mono ?_
    rintro e w' ⟨rfl, rfl⟩
    go_wp2_with fail
    refine (toIntS_any _ _ a xs cap hs H2.out (by omega)).mono ?_
    rintro e w3 ⟨rfl, o3, b3⟩
    have N3 := Lib.hid (o3.nums hrg.out (Nat.le_refl _))
    have N2' := Lib.hid ((O2.out.below b3).nums hrg.out (Nat.le_refl _))
    clear o3
    go_wp2_with fail
    refine (eqI_same _ _ _ _ _ _ xs _ hs2 N2'.out N3.out).mono ?_
    rintro e w' ⟨rfl, m, rfl⟩
    go_wp2_with fail
    go_ret
    exact ⟨rfl, ((b1.trans (b2.mono s1)).trans (b3.mono (by omega))).trans (below_drewN _ _ _)⟩

/-- The row of an exact law behind its marks: what the law's last part needs. -/
theorem lanes_rng {m : Int} : (∀ x ∈ lanesOf m, i64R x) ∧ (lanesOf m).length ≤ 8 :=
  ⟨fun x hx => by have := lanesTo_lane (Nat.le_refl 8) x hx; unfold i64R; omega, lanesTo_le m 8⟩

theorem below_grown {base B : Nat} {w w' : World} {v : Value} {xs : List Int} (h : Own B w v xs) (hg : w.grownBy w' v.ownBlock) (hb : base ≤ B) (hB : base ≤ w.heap.size) : Below base w w' :=
  grownBy_below hg hB (fun k e => by have := (World.ownsRow.lt h k e).1; omega)

set_option maxHeartbeats 1000000 in
theorem fnExactLanesOf_walk (m : Int) (_hm : (Lit.int .i64 m).wf = true) (w : World) : Calls Try.prog 7 #[.int .i64 m] w fun e w' => e = .returned (.bool true) ∧ Below w.heap.size w w' := by
  have h1 := fun W => sLanes_any m W
  have h2 := fun W => pLanes_any m W
  obtain ⟨hx1, hx2⟩ := lanes_rng (m := m)
  generalize lanesOf m = xs at *
  replace h1 := Lib.hid h1
  replace h2 := Lib.hid h2
  have hrg := Lib.hid hx1
  have hs2 : xs.length ≤ 10000000 := by omega
  clear hx1
  go_enter Try.func7, Try.ntmps7
  go_wp2_with fail
  refine (h1.out _).mono ?_
  rintro e w1 ⟨v0, rfl, o0, b1⟩
  have s1 := b1.size
  obtain ⟨a0, c0, rfl⟩ := o0.form
  have O0 := Lib.hid o0
  clear o0
  go_wp2_with fail
  refine (h2.out _).mono ?_
  rintro e w2 ⟨v1, rfl, o1, b2⟩
  have s2 := b2.size
  obtain ⟨a1, c1, rfl⟩ := o1.form
  have O1 := Lib.hid o1
  have O0' := Lib.hid (O0.out.below b2)
  clear o1
  go_wp2_with fail
  refine (eqI_same _ _ _ _ _ _ xs _ hs2 (O1.out.nums hrg.out (Nat.le_refl _)) (O0'.out.nums hrg.out (Nat.le_refl _))).mono ?_
  rintro e w' ⟨rfl, m1, rfl⟩
  have d1 := below_drewN w2.heap.size w2 m1
  have O1a := Lib.hid (O1.out.below d1)
  have O0a := Lib.hid (O0'.out.below d1)
  go_wp2_with fail
  refine (markI_any _ 1 _ xs _ (by omega) hs2 O1a.out).mono ?_
  rintro e w3 ⟨rfl, o3, g3⟩
  have s3 := g3.size
  have O3 := Lib.hid o3
  have O0b := Lib.hid (O0a.out.apart (fun g hg => (World.ownsRow.lt O0.out g hg).2) O1a.out g3)
  have b3 := Lib.hid (below_grown (base := w.heap.size) O1a.out g3 s1 (by show w.heap.size ≤ w2.heap.size; omega))
  clear o3 g3
  go_wp2_with fail
  refine (heldI_any _ 1 _ _ _ (by omega) hs2 O3.out).mono ?_
  rintro e w' ⟨rfl, m2, rfl⟩
  have d2 := below_drewN w3.heap.size w3 m2
  have O3a := Lib.hid (O3.out.below d2)
  have O0c := Lib.hid (O0b.out.below d2)
  go_wp2_with fail
  refine (h2.out _).mono ?_
  rintro e w4 ⟨v2, rfl, o4, b4⟩
  have s4 := b4.size
  obtain ⟨a2, c2, rfl⟩ := o4.form
  have O4 := Lib.hid o4
  have O0d := Lib.hid (O0c.out.below b4)
  have O3b := Lib.hid (O3a.out.below b4)
  clear o4
  go_wp2_with fail
  refine (eqI_same _ _ _ _ _ _ xs _ hs2 (O4.out.nums hrg.out (Nat.le_refl _)) (O0d.out.nums hrg.out (Nat.le_refl _))).mono ?_
  rintro e w' ⟨rfl, m3, rfl⟩
  have d3 := below_drewN w4.heap.size w4 m3
  have O3c := Lib.hid (O3b.out.below d3)
  go_wp2_with fail
  refine (heldI_any _ 1 _ _ _ (by omega) hs2 O3c.out).mono ?_
  rintro e w' ⟨rfl, m4, rfl⟩
  go_wp2_with fail
  go_ret
  exact ⟨rfl, (((((b1.trans (b2.mono s1)).trans (below_drewN _ _ _)).trans b3.out).trans (below_drewN _ _ _)).trans (b4.mono (by show w.heap.size ≤ w3.heap.size; have : w2.heap.size ≤ w3.heap.size := s3; omega))).trans (below_drewN _ _ _)⟩

end Go.Proofs.Ytkfolcmahbnenaa
