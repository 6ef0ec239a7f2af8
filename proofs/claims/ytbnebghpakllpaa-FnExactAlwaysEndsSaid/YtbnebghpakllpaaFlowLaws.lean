/- The exact laws of the flow graphs: whatever program and node are given, the program answers as the model; its answer owns its memory. -/
import Derived.Test.YtbnebghpakllpaaProgRow
namespace Go.Proofs.Ytbnebghpakllpaa
open Go.RowKit Go

set_option maxRecDepth 100000 in
set_option maxHeartbeats 2000000 in
theorem fnExactReachableFrom_walk (a : Option Addr) (p : List I4) (cap : Nat) (k : Int) (w : World) (hm : p.length ≤ maxLen) (hn : Nums w.heap.size w a (flat p)) :
    Calls Try.prog 5 #[.slice a p.length cap, .int .i64 k] w fun e w' => e = .returned (.bool true) ∧ Below w.heap.size w w' := by
  have hm' : p.length ≤ 9223372036854775807 := by unfold maxLen at hm; omega
  have HN := Lib.hid hn
  have hz := fun W => szP_any a p.length cap 1048576 W (by omega) (by omega) hm'
  clear hn hm
  by_cases hbig : 1048576 < p.length
  · rw [if_pos (by omega)] at hz
    replace hz := Lib.hid hz
    go_enter Try.func5, Try.ntmps5
    go_wp2_with fail
    refine (hz.out _).mono ?_
    rintro e w' ⟨rfl, rfl⟩
    go_wp2_with fail
    go_ret
    exact ⟨rfl, Below.refl _ _⟩
  · rw [if_neg (by omega)] at hz
    have hs : p.length ≤ 1048576 := by omega
    have hd : decide ((1048576 : Int) - (p.length : Int) < 0) = false := by simp; omega
    replace hz := Lib.hid hz
    have hrg := Lib.hid HN.out.1
    obtain ⟨R, hR⟩ := exists_all p
    have hl2 : (reachQ p R k).length ≤ 10000000 := reachQ_le
    have hq1 : ∀ x ∈ reachQ p R k, i64R x := reachQ_rng
    have hS := fun (B : Nat) (W : World) (a : Option Addr) (c : Nat) (h : Nums B W a (flat p)) (hB : B ≤ W.heap.size) => sReachable_any B W a p R hR c k (by omega) h hB
    have hP := fun (B : Nat) (W : World) (a : Option Addr) (c : Nat) (h : Nums B W a (flat p)) (hB : B ≤ W.heap.size) => pReachable_any B W a p R hR c k (by omega) h hB
    generalize reachQ p R k = q at *
    have HS := Lib.hid hS
    have HP := Lib.hid hP
    have hrq := Lib.hid hq1
    clear hS hP hq1
    go_enter Try.func5, Try.ntmps5
    go_wp2_with fail
    refine (hz.out _).mono ?_
    rintro e w' ⟨rfl, rfl⟩
    go_wp2_with fail
    refine (toInsS_any _ _ a p cap hs HN.out (Nat.le_refl _)).mono ?_
    rintro e w1 ⟨rfl, o1, b1⟩
    have N1 := Lib.hid (o1.nums hrg.out (Nat.le_refl _))
    have H1 := Lib.hid (HN.out.kept b1)
    have s1 := b1.size
    have A1 := Lib.hid b1
    clear o1 b1
    go_wp2_with fail
    refine (HS.out _ _ _ _ N1.out (Nat.le_refl _)).mono ?_
    rintro e w2 ⟨vw, rfl, o2, b2⟩
    obtain ⟨aw, cw, rfl⟩ := o2.form
    have s2 := b2.size
    have H2 := Lib.hid (H1.out.kept (b2.mono s1))
    have A2 := Lib.hid (A1.out.trans (b2.mono s1))
    have OW := Lib.hid o2
    clear o2 b2
    go_wp2_with fail
    refine (toInsS_any _ _ a p cap hs H2.out (by omega)).mono ?_
    rintro e w3 ⟨rfl, o3, b3⟩
    have s3 := b3.size
    have H3 := Lib.hid (H2.out.kept (b3.mono (by omega)))
    have A3 := Lib.hid (A2.out.trans (b3.mono (by omega)))
    have N3 := Lib.hid (o3.nums hrg.out (Nat.le_refl _))
    have OX := Lib.hid o3
    have OW3 := Lib.hid (OW.out.below b3)
    clear o3 b3
    go_wp2_with fail
    refine (HP.out _ _ _ _ N3.out (Nat.le_refl _)).mono ?_
    rintro e w4 ⟨vg, rfl, o4, b4⟩
    obtain ⟨ag, cg, rfl⟩ := o4.form
    have s4 := b4.size
    have H4 := Lib.hid (H3.out.kept (b4.mono (by omega)))
    have A4 := Lib.hid (A3.out.trans (b4.mono (by omega)))
    have OG := Lib.hid o4
    have OX4 := Lib.hid (OX.out.below b4)
    have OW4 := Lib.hid (OW3.out.below b4)
    clear o4 b4
    go_wp2_with fail
    refine (eqI_same _ _ _ _ _ _ q _ hl2 (OG.out.nums hrq.out (Nat.le_refl _)) (OW4.out.nums hrq.out (Nat.le_refl _))).mono ?_
    rintro e w' ⟨rfl, m5, rfl⟩
    have b5 := below_drewN w4.heap.size w4 m5
    have H5 := Lib.hid (H4.out.kept (b5.mono (by omega)))
    have A5 := Lib.hid (A4.out.trans (b5.mono (by omega)))
    have OG5 := Lib.hid (OG.out.below b5)
    have OX5 := Lib.hid (OX4.out.below b5)
    have OW5 := Lib.hid (OW4.out.below b5)
    clear b5
    go_wp2_with fail
    refine (toInsS_any _ _ a p cap hs H5.out (by show w.heap.size ≤ w4.heap.size; omega)).mono ?_
    rintro e w6 ⟨rfl, o6, b6⟩
    have s6 : w4.heap.size ≤ w6.heap.size := b6.size
    have H6 := Lib.hid (H5.out.kept (b6.mono (by show w.heap.size ≤ w4.heap.size; omega)))
    have A6 := Lib.hid (A5.out.trans (b6.mono (by show w.heap.size ≤ w4.heap.size; omega)))
    have N6 := Lib.hid (o6.nums hrg.out (Nat.le_refl _))
    have OG6 := Lib.hid (OG5.out.below b6)
    have OX6 := Lib.hid (OX5.out.below b6)
    have OW6 := Lib.hid (OW5.out.below b6)
    clear o6 b6
    go_wp2_with fail
    refine (eqP_same _ _ _ _ _ _ p _ (by omega) (OX6.out.nums hrg.out (Nat.le_refl _)) N6.out (Nat.le_refl _) (Nat.le_refl _)).mono ?_
    rintro e w7 ⟨rfl, b7⟩
    have s7 := b7.size
    have H7 := Lib.hid (H6.out.kept (b7.mono (by omega)))
    have A7 := Lib.hid (A6.out.trans (b7.mono (by omega)))
    have OG7 := Lib.hid (OG6.out.below b7)
    have OX7 := Lib.hid (OX6.out.below b7)
    have OW7 := Lib.hid (OW6.out.below b7)
    clear b7
    go_wp2_with fail
    refine (markP_any _ 1 _ _ _ _ (by omega) (by omega) OX7.out).mono ?_
    rintro e w8 ⟨rfl, _, g8⟩
    have s8 : w7.heap.size ≤ w8.heap.size := g8.size
    have b8 := below_grownP (base := w.heap.size) OX7.out g8 (by omega) (by omega)
    have H8 := Lib.hid (H7.out.kept b8)
    have A8 := Lib.hid (A7.out.trans b8)
    have OG8 := Lib.hid (row_above OG7.out (fun g hg => (World.ownsRow.lt OX.out g hg).2) g8)
    have OW8 := Lib.hid (row_under OW7.out (fun g hg => (World.ownsRow.lt OW.out g hg).2) OX7.out g8)
    clear g8 b8
    go_wp2_with fail
    refine (eqI_same _ _ _ _ _ _ q _ hl2 (OG8.out.nums hrq.out (Nat.le_refl _)) (OW8.out.nums hrq.out (Nat.le_refl _))).mono ?_
    rintro e w' ⟨rfl, m9, rfl⟩
    have b9 := below_drewN w8.heap.size w8 m9
    have H9 := Lib.hid (H8.out.kept (b9.mono (by omega)))
    have A9 := Lib.hid (A8.out.trans (b9.mono (by omega)))
    have OG9 := Lib.hid (OG8.out.below b9)
    have OW9 := Lib.hid (OW8.out.below b9)
    clear b9
    go_wp2_with fail
    refine (markI_any _ 1 _ q _ (by omega) hl2 OG9.out).mono ?_
    rintro e w10 ⟨rfl, o10, g10⟩
    have s10 : w8.heap.size ≤ w10.heap.size := g10.size
    have b10 := below_grownI (base := w.heap.size) OG9.out g10 (by omega) (by show w.heap.size ≤ w8.heap.size; omega)
    have H10 := Lib.hid (H9.out.kept b10)
    have A10 := Lib.hid (A9.out.trans b10)
    have OW10 := Lib.hid (OW9.out.apart (fun g hg => by have := (World.ownsRow.lt OW.out g hg).2; omega) OG9.out g10)
    have OM := Lib.hid o10
    clear o10 g10 b10
    go_wp2_with fail
    refine (heldI_any _ 1 _ _ _ (by omega) hl2 OM.out).mono ?_
    rintro e w' ⟨rfl, m11, rfl⟩
    have b11 := below_drewN w10.heap.size w10 m11
    have H11 := Lib.hid (H10.out.kept (b11.mono (by omega)))
    have A11 := Lib.hid (A10.out.trans (b11.mono (by omega)))
    have OM1 := Lib.hid (OM.out.below b11)
    have OW11 := Lib.hid (OW10.out.below b11)
    clear b11
    go_wp2_with fail
    refine (toInsS_any _ _ a p cap hs H11.out (by show w.heap.size ≤ w10.heap.size; omega)).mono ?_
    rintro e w12 ⟨rfl, o12, b12⟩
    have s12 : w10.heap.size ≤ w12.heap.size := b12.size
    have A12 := Lib.hid (A11.out.trans (b12.mono (by show w.heap.size ≤ w10.heap.size; omega)))
    have N12 := Lib.hid (o12.nums hrg.out (Nat.le_refl _))
    have OM12 := Lib.hid (OM1.out.below b12)
    have OW12 := Lib.hid (OW11.out.below b12)
    clear o12 b12
    go_wp2_with fail
    refine (HP.out _ _ _ _ N12.out (Nat.le_refl _)).mono ?_
    rintro e w13 ⟨vh, rfl, o13, b13⟩
    obtain ⟨ah, ch, rfl⟩ := o13.form
    have s13 := b13.size
    have A13 := Lib.hid (A12.out.trans (b13.mono (by omega)))
    have OM13 := Lib.hid (OM12.out.below b13)
    have OW13 := Lib.hid (OW12.out.below b13)
    have OH := Lib.hid o13
    clear o13 b13
    go_wp2_with fail
    refine (eqI_same _ _ _ _ _ _ q _ hl2 (OH.out.nums hrq.out (Nat.le_refl _)) (OW13.out.nums hrq.out (Nat.le_refl _))).mono ?_
    rintro e w' ⟨rfl, m14, rfl⟩
    have b14 := below_drewN w13.heap.size w13 m14
    have OM14 := Lib.hid (OM13.out.below b14)
    clear b14
    go_wp2_with fail
    refine (heldI_any _ 1 _ _ _ (by omega) hl2 OM14.out).mono ?_
    rintro e w' ⟨rfl, m15, rfl⟩
    go_wp2_with fail
    go_ret
    exact ⟨rfl, A13.out.trans (below_drewN _ _ _)⟩

set_option maxRecDepth 100000 in
set_option maxHeartbeats 1000000 in
theorem fnExactAlwaysEnds_walk (a : Option Addr) (p : List I4) (cap : Nat) (w : World) (hm : p.length ≤ maxLen) (hn : Nums w.heap.size w a (flat p)) :
    Calls Try.prog 6 #[.slice a p.length cap] w fun e w' => e = .returned (.bool true) ∧ Below w.heap.size w w' := by
  have hm' : p.length ≤ 9223372036854775807 := by unfold maxLen at hm; omega
  have HN := Lib.hid hn
  have hz := fun W => szP_any a p.length cap 1048576 W (by omega) (by omega) hm'
  clear hn hm
  by_cases hbig : 1048576 < p.length
  · rw [if_pos (by omega)] at hz
    replace hz := Lib.hid hz
    go_enter Try.func6, Try.ntmps6
    go_wp2_with fail
    refine (hz.out _).mono ?_
    rintro e w' ⟨rfl, rfl⟩
    go_wp2_with fail
    go_ret
    exact ⟨rfl, Below.refl _ _⟩
  · rw [if_neg (by omega)] at hz
    have hs : p.length ≤ 1048576 := by omega
    have hs2 : p.length ≤ 10000000 := by omega
    have hd : decide ((1048576 : Int) - (p.length : Int) < 0) = false := by simp; omega
    replace hz := Lib.hid hz
    have hrg := Lib.hid HN.out.1
    obtain ⟨R, hR⟩ := exists_all p
    obtain ⟨v, hv⟩ : ∃ v, v = endsQ p R := ⟨_, rfl⟩
    have HV := Lib.hid hv
    clear hv
    go_enter Try.func6, Try.ntmps6
    go_wp2_with fail
    refine (hz.out _).mono ?_
    rintro e w' ⟨rfl, rfl⟩
    go_wp2_with fail
    refine (toInsS_any _ _ a p cap hs HN.out (Nat.le_refl _)).mono ?_
    rintro e w1 ⟨rfl, o1, b1⟩
    have N1 := Lib.hid (o1.nums hrg.out (Nat.le_refl _))
    have H1 := Lib.hid (HN.out.kept b1)
    have s1 := b1.size
    have A1 := Lib.hid b1
    clear o1 b1
    go_wp2_with fail
    refine (sEnds_any _ _ _ p R hR _ hs2 N1.out (Nat.le_refl _)).mono ?_
    rw [← HV.out]
    rintro e w2 ⟨rfl, b2⟩
    have s2 := b2.size
    have H2 := Lib.hid (H1.out.kept (b2.mono s1))
    have A2 := Lib.hid (A1.out.trans (b2.mono s1))
    clear b2
    go_wp2_with fail
    refine (toInsS_any _ _ a p cap hs H2.out (by omega)).mono ?_
    rintro e w3 ⟨rfl, o3, b3⟩
    have s3 := b3.size
    have N3 := Lib.hid (o3.nums hrg.out (Nat.le_refl _))
    have H3 := Lib.hid (H2.out.kept (b3.mono (by omega)))
    have A3 := Lib.hid (A2.out.trans (b3.mono (by omega)))
    have O3 := Lib.hid o3
    clear o3 b3
    go_wp2_with fail
    refine (pEnds_any _ _ _ p R hR _ hs2 N3.out (Nat.le_refl _)).mono ?_
    rw [← HV.out]
    rintro e w4 ⟨rfl, b4⟩
    have s4 := b4.size
    have H4 := Lib.hid (H3.out.kept (b4.mono (by omega)))
    have A4 := Lib.hid (A3.out.trans (b4.mono (by omega)))
    have O4 := Lib.hid (O3.out.below b4)
    clear b4
    go_wp2_with fail
    refine (toInsS_any _ _ a p cap hs H4.out (by omega)).mono ?_
    rintro e w5 ⟨rfl, o5, b5⟩
    have s5 := b5.size
    have N5 := Lib.hid (o5.nums hrg.out (Nat.le_refl _))
    have N4 := Lib.hid ((O4.out.below b5).nums hrg.out (Nat.le_refl _))
    have A5 := Lib.hid (A4.out.trans (b5.mono (by omega)))
    clear o5 b5
    go_wp2_with fail
    refine (eqP_same _ _ _ _ _ _ p _ hs2 N4.out N5.out (Nat.le_refl _) (Nat.le_refl _)).mono ?_
    rintro e w6 ⟨rfl, b6⟩
    have A6 := Lib.hid (A5.out.trans (b6.mono (by omega)))
    clear b6
    go_wp2_with fail
    go_ret
    exact ⟨rfl, A6.out⟩


end Go.Proofs.Ytbnebghpakllpaa
