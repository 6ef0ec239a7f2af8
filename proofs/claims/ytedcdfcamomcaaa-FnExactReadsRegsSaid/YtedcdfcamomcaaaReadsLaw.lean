/- The exact law of the registers that an instruction reads: whatever instruction is given, the program answers as the model. -/
import Derived.Test.YtedcdfcamomcaaaReadsS
import Derived.Test.YtedcdfcamomcaaaInsOkP
namespace Go.Proofs.Ytedcdfcamomcaaa
open Go.RowKit Go

theorem rawR_rng {o a b c : Int} (ha : i64R a) (hb : i64R b) (hc : i64R c) : (∀ x ∈ ascOf (rawR o a b c), i64R x) ∧ (ascOf (rawR o a b c)).length ≤ 3 := by
  constructor
  · intro x hx
    have h := ((ascOf_asc _).2 x).1 hx
    unfold rawR at h
    repeat' split at h
    all_goals
      simp at h <;> first
        | (rcases h with rfl | rfl | rfl <;> assumption)
        | (rcases h with rfl | rfl <;> assumption)
        | (subst h; assumption)
  · refine Nat.le_trans (ascOf_le _) ?_
    unfold rawR
    repeat' split
    all_goals simp

theorem below_grown {base B : Nat} {w w' : World} {v : Value} {xs : List Int} (h : Own B w v xs) (hg : w.grownBy w' v.ownBlock) (hb : base ≤ B) (hB : base ≤ w.heap.size) : Below base w w' :=
  grownBy_below hg hB (fun k e => by have := (World.ownsRow.lt h k e).1; omega)

set_option maxHeartbeats 2000000 in
theorem fnExactReadsRegs_walk (o a b c : Int) (ha : (Lit.int .i64 a).wf = true) (hb : (Lit.int .i64 b).wf = true) (hc : (Lit.int .i64 c).wf = true) (w : World) :
    Calls Try.prog 5 #[.agg #[.int .i64 o, .int .i64 a, .int .i64 b, .int .i64 c]] w fun e w' => e = .returned (.bool true) ∧ Below w.heap.size w w' := by
  have h1 := fun W => sReads_any o a b c W
  have h2 := fun W => pReads_any o a b c W
  obtain ⟨hx1, hx2⟩ := rawR_rng (o := o) (i64R_of ha) (i64R_of hb) (i64R_of hc)
  generalize ascOf (rawR o a b c) = xs at *
  replace h1 := Lib.hid h1
  replace h2 := Lib.hid h2
  have hrg := Lib.hid hx1
  have hs2 : xs.length ≤ 10000000 := by omega
  clear hx1 ha hb hc
  go_enter Try.func5, Try.ntmps5
  go_wp2_with fail
  refine (toIns_any o a b c _).mono ?_
  rintro e v1 ⟨rfl, a1⟩
  obtain ⟨bc1, _⟩ := bcell a1
  have t1 : w.heap.size < v1.heap.size := by have := a1.size; simp at this; omega
  have A1 := Lib.hid ((below1 _ _).trans (a1.mono (by simp)))
  clear a1
  go_wp2_with fail
  refine (h1.out _).mono ?_
  rintro e w1 ⟨v0, rfl, o0, b1⟩
  have s1 := b1.size
  have u1 : w.heap.size < w1.heap.size := by omega
  obtain ⟨a0, c0, rfl⟩ := o0.form
  have O0 := Lib.hid o0
  obtain ⟨bc2, _⟩ := bcell b1
  have A2 := Lib.hid (A1.out.trans (b1.mono (by omega)))
  clear o0 b1
  go_wp2_with fail
  refine (toIns_any o a b c _).mono ?_
  rintro e v2 ⟨rfl, a2⟩
  obtain ⟨bc3, _⟩ := bcell a2
  have t2 : w.heap.size < v2.heap.size := by have := a2.size; omega
  have t2' : w1.heap.size ≤ v2.heap.size := a2.size
  have A3 := Lib.hid (A2.out.trans (a2.mono (by omega)))
  have O0x := Lib.hid (O0.out.below a2)
  clear a2
  go_wp2_with fail
  refine (h2.out _).mono ?_
  rintro e w2 ⟨v3, rfl, o1, b2⟩
  have s2 : v2.heap.size ≤ w2.heap.size := b2.size
  have u2 : w.heap.size < w2.heap.size := by omega
  obtain ⟨a1, c1, rfl⟩ := o1.form
  have O1 := Lib.hid o1
  have O0' := Lib.hid (O0x.out.below b2)
  obtain ⟨bc4, _⟩ := bcell b2
  have A4 := Lib.hid (A3.out.trans (b2.mono (by omega)))
  clear o1 b2
  go_wp2_with fail
  refine (eqI_same _ _ _ _ _ _ xs _ hs2 (O1.out.nums hrg.out (Nat.le_refl _)) (O0'.out.nums hrg.out (Nat.le_refl _))).mono ?_
  rintro e w' ⟨rfl, m1, rfl⟩
  have d1 := below_drewN w2.heap.size w2 m1
  have O1a := Lib.hid (O1.out.below d1)
  have O0a := Lib.hid (O0'.out.below d1)
  clear d1
  go_wp2_with fail
  refine (markI_any _ 1 _ xs _ (by omega) hs2 O1a.out).mono ?_
  rintro e w3 ⟨rfl, o3, g3⟩
  have s3 : w2.heap.size ≤ w3.heap.size := g3.size
  have O3 := Lib.hid o3
  have O0b := Lib.hid (O0a.out.apart (fun g hg => by have := (World.ownsRow.lt O0.out g hg).2; omega) O1a.out g3)
  have b3 := below_grown (base := v2.heap.size) O1a.out g3 (Nat.le_refl _) (by show v2.heap.size ≤ w2.heap.size; omega)
  have bc5 : ∀ b o, b < v2.heap.size → w3.cell? ⟨b, o, none⟩ = w2.cell? ⟨b, o, none⟩ := fun b o h => b3.cell (p := ⟨b, o, none⟩) h
  have A5 := Lib.hid ((A4.out.trans (below_drewN _ _ m1)).trans (b3.mono (by omega)))
  clear o3 g3 b3
  go_wp2_with fail
  refine (heldI_any _ 1 _ _ _ (by omega) hs2 O3.out).mono ?_
  rintro e w' ⟨rfl, m2, rfl⟩
  have d2 := below_drewN w3.heap.size w3 m2
  have O3a := Lib.hid (O3.out.below d2)
  have O0c := Lib.hid (O0b.out.below d2)
  clear d2
  go_wp2_with fail
  refine (toIns_any o a b c _).mono ?_
  rintro e v4 ⟨rfl, a4⟩
  have t4 : w3.heap.size ≤ v4.heap.size := a4.size
  have A6 := Lib.hid ((A5.out.trans (below_drewN _ _ m2)).trans (a4.mono (by show w.heap.size ≤ w3.heap.size; omega)))
  have O3b := Lib.hid (O3a.out.below a4)
  have O0d := Lib.hid (O0c.out.below a4)
  clear a4
  go_wp2_with fail
  refine (h2.out _).mono ?_
  rintro e w4 ⟨v5, rfl, o4, b4⟩
  have s4 : v4.heap.size ≤ w4.heap.size := b4.size
  obtain ⟨a2, c2, rfl⟩ := o4.form
  have O4 := Lib.hid o4
  have O0e := Lib.hid (O0d.out.below b4)
  have O3c := Lib.hid (O3b.out.below b4)
  have A7 := Lib.hid (A6.out.trans (b4.mono (by omega)))
  clear o4 b4
  go_wp2_with fail
  refine (eqI_same _ _ _ _ _ _ xs _ hs2 (O4.out.nums hrg.out (Nat.le_refl _)) (O0e.out.nums hrg.out (Nat.le_refl _))).mono ?_
  rintro e w' ⟨rfl, m3, rfl⟩
  have d3 := below_drewN w4.heap.size w4 m3
  have O3d := Lib.hid (O3c.out.below d3)
  clear d3
  go_wp2_with fail
  refine (heldI_any _ 1 _ _ _ (by omega) hs2 O3d.out).mono ?_
  rintro e w' ⟨rfl, m4, rfl⟩
  go_wp2_with fail
  go_ret
  exact ⟨rfl, A7.out.trans (below_drewN _ _ _)⟩

end Go.Proofs.Ytedcdfcamomcaaa
