/- Lanes that run alone: the exact law of RunLane. -/
import Derived.Test.YtmiopbpahkgmbaaRunP
import Derived.Test.YtmiopbpahkgmbaaRunS
import Derived.Test.YtmiopbpahkgmbaaLaneL
import Derived.Test.YtmiopbpahkgmbaaSep
import Derived.Deep.CutRange
namespace Go.Proofs.Ytmiopbpahkgmbaa
open Go.RowKit Go

set_option maxRecDepth 100000 in
set_option maxHeartbeats 40000000 in
theorem fnExactRunLane_walk (a : Option Addr) (p : List I4) (cap : Nat) (t pc : Int) (ra : Option Addr) (n2 rc : Nat) (zs : List Int) (n : Int) (w : World) (hm : p.length ≤ maxLen) (hn : Nums w.heap.size w a (flat p)) (hr : IsRow .i64 w ra n2 rc zs) :
    Calls Try.prog 8 #[.slice a p.length cap, .agg #[.int .i64 t, .int .i64 pc, .slice ra n2 rc], .int .i64 n] w fun e w' => e = .returned (.bool true) ∧ Below w.heap.size w w' := by
  obtain ⟨rs, rfl, hm2, hn2⟩ := hr.nums
  clear hr zs
  have hm' : p.length ≤ 9223372036854775807 := by unfold maxLen at hm; omega
  have hm2' : rs.length ≤ 9223372036854775807 := by unfold maxLen at hm2; omega
  have HN := Lib.hid hn
  have HR := Lib.hid hn2
  have hz := fun W => szP_any a p.length cap 1048576 W (by omega) (by omega) hm'
  clear hn hm hn2 hm2
  by_cases hbig : 1048576 < p.length
  · rw [if_pos (by omega)] at hz
    replace hz := Lib.hid hz
    go_enter Try.func8, Try.ntmps8
    go_wp2_with fail
    refine (hz.out _).mono ?_
    rintro e w' ⟨rfl, rfl⟩
    go_wp2_with fail
    go_ret
    exact ⟨rfl, below1 _ _⟩
  rw [if_neg (by omega)] at hz
  have hd : decide ((1048576 : Int) - (p.length : Int) < 0) = false := by simp; omega
  replace hz := Lib.hid hz
  have hy := fun W => szLane_any t pc ra rs.length rc (1048576 - (p.length : Int)) W (by omega) (by omega) hm2'
  by_cases hbig2 : 1048576 - (p.length : Int) < rs.length
  · rw [if_pos hbig2] at hy
    replace hy := Lib.hid hy
    go_enter Try.func8, Try.ntmps8
    go_wp2_with fail
    refine (hz.out _).mono ?_
    rintro e w' ⟨rfl, rfl⟩
    go_wp2_with fail
    refine (hy.out _).mono ?_
    rintro e w1 ⟨rfl, b1⟩
    go_wp2_with fail
    go_ret
    exact ⟨rfl, (below1 _ _).trans (b1.mono (by simp))⟩
  rw [if_neg hbig2] at hy
  have hd2 : decide ((1048576 : Int) - (p.length : Int) - (rs.length : Int) < 0) = false := by simp; omega
  replace hy := Lib.hid hy
  have hs : p.length ≤ 1048576 := by omega
  have hs2 : p.length ≤ 10000000 := by omega
  have hq : rs.length ≤ 1048576 := by omega
  have hq2 : rs.length ≤ 10000000 := by omega
  clear hbig hbig2 hm' hm2'
  have HPG := Lib.hid HN.out.1
  have HRG := Lib.hid HR.out.1
  have HTG := Lib.hid (rn_rng (p := p) (t := t) (pc := pc) (n := n) HRG.out)
  have hyl : (rnR p t pc rs n).length = rs.length := rn_len _ _ _ _ _
  obtain ⟨ys, hys⟩ : ∃ ys, ys = rnR p t pc rs n := ⟨_, rfl⟩
  obtain ⟨m, hm⟩ : ∃ m, m = rnP p t pc rs n := ⟨_, rfl⟩
  obtain ⟨ok, hok⟩ : ∃ ok, ok = rnN p t pc rs n := ⟨_, rfl⟩
  rw [← hys] at HTG hyl
  have hy2 : ys.length ≤ 10000000 := by omega
  have HYS := Lib.hid hys
  have HMM := Lib.hid hm
  have HOK := Lib.hid hok
  clear hys hm hok hyl
  obtain ⟨wb, hwb⟩ : ∃ wb, wb = w.alloc (.cells #[.int .i64 t, .int .i64 pc, .slice ra rs.length rc] 50) := ⟨_, rfl⟩
  have bwb : Below w.heap.size w wb := by rw [hwb]; exact below1 _ _
  have XA := Lib.hid (show Box 50 wb w.heap.size #[.int .i64 t, .int .i64 pc, .slice ra rs.length rc] by rw [hwb]; exact Box.new _ _ _)
  have zb : w.heap.size < wb.heap.size := XA.out.lt
  have KA := Lib.hid bwb
  have KB := Lib.hid (Below.refl wb.heap.size wb)
  clear bwb
  go_enter Try.func8, Try.ntmps8
  go_upto_region 1 with fail
  rw [← hwb]
  clear hwb
  have c1 := XA.out.cell 0
  have c2 := XA.out.cell 1
  have c3 := XA.out.cell 2
  simp at c1 c2 c3
  have l4 := XA.out.lt
  go_wp2_with fail
  refine (hz.out _).mono ?_
  rintro e w' ⟨rfl, rfl⟩
  go_wp2_with fail
  refine (hy.out _).mono ?_
  rintro e w1 ⟨rfl, b1⟩
  clear hz hy
  have z5 : wb.heap.size ≤ w1.heap.size := b1.size
  have K6 := Lib.hid (KA.out.trans (b1.mono (by omega)))
  clear KA
  have K7 := Lib.hid (KB.out.trans (b1.mono (by omega)))
  clear KB
  have X8 := Lib.hid (XA.out.below b1)
  clear XA
  clear b1 c1 c2 c3 l4
  have c9 := X8.out.cell 0
  have c10 := X8.out.cell 1
  have c11 := X8.out.cell 2
  simp at c9 c10 c11
  have l12 := X8.out.lt
  go_upto_region 8 with fail
  have HC1 := Lib.hid (fun (W : World) (hW : Kept w1 W) => (toInsS_any w.heap.size W a p cap hs (HN.out.kept (K6.out.trans (Below.mono hW (by omega)))) (by have := hW.size; omega)).mono (R' := fun e w2 => ∃ g : Nat, e = .returned (.slice (some ⟨g, 0, none⟩) p.length p.length) ∧ OwnP W.heap.size w2 (.slice (some ⟨g, 0, none⟩) p.length p.length) p.length (flat p) ∧ Below W.heap.size W w2) (fun e w2 h => ⟨_, h.1, h.2.1, h.2.2⟩))
  have HC2 := Lib.hid (fun (W : World) (hW : Kept w1 W) => toLane_any w.heap.size W t pc ra rs rc hq (HR.out.kept (K6.out.trans (Below.mono hW (by omega)))) (by have := hW.size; omega))
  have HS := Lib.hid (fun (W : World) (hW : Kept w1 W) => ((X8.out.below hW).three))
  have HC3 := fun (W : World) (hW : Kept w1 W) B1 a1 c1 N1 hB1 B2 ad c2 N2 hB2 => (sRunLane_any B1 W a1 p c1 hs2 N1 hB1 t pc B2 (some ad) rs c2 hq2 N2 hB2 n).mono (R' := fun e w4 => ∃ (a4 : Option Addr) (c4 : Nat), e = .returned (.tuple #[.agg #[.int .i64 t, .int .i64 m, .slice a4 ys.length c4], .int .i64 ok]) ∧ Own W.heap.size w4 (.slice a4 ys.length c4) ys ∧ Below W.heap.size W w4 ∧ w1.heap.size ≤ W.heap.size) (by rw [← HYS.out, ← HMM.out, ← HOK.out]; rintro e w4 ⟨a4, c4, h1, h2, h3⟩; exact ⟨a4, c4, h1, h2, h3, hW.size⟩)
  replace HC3 := Lib.hid HC3
  have hk1 : Kept w1 w1 := Below.refl _ _
  go_cut [8, 9] from 29 to 37 (fun s6 s7 wx => ∃ (b6 : Nat) (a4 : Option Addr) (c4 : Nat), s6 = .pointer (some ⟨b6, 0, none⟩) ∧ s7 = .int .i64 ok ∧ Box 27 wx b6 #[.int .i64 t, .int .i64 m, .slice a4 ys.length c4] ∧ Own w1.heap.size wx (.slice a4 ys.length c4) ys ∧ Below w1.heap.size w1 wx)
  case first =>
    obtain ⟨⟨q0, q1, q2⟩, q3, q4⟩ := HS.out w1 hk1
    go_region_with (first
      | (go_at_call 33; refine (HC1.out _ (by first | with_reducible exact hk1 | with_reducible exact Kept.drew hk1 | with_reducible exact Kept.alloc hk1 _ | with_reducible exact Kept.drew (Kept.alloc hk1 _))).mono ?_; rintro e w2 ⟨g2, rfl, o2, hb1⟩; (try with_reducible have hXX := @box_callD 27 w1 w2 #[.int .i64 0, .int .i64 0, .slice none 0 0] hb1); replace hk1 : Kept w1 w2 := (by first | with_reducible exact Kept.call hk1 hb1 | with_reducible exact Kept.call (Kept.drew hk1) hb1 | with_reducible exact Kept.call (Kept.alloc hk1 _) hb1 | with_reducible exact Kept.call (Kept.drew (Kept.alloc hk1 _)) hb1); have hk2 : Kept w2 w2 := Below.refl _ _; have HN2 := Lib.hid (fun (W : World) (hW : Kept w2 W) => (OwnP.below o2 hW).nums HPG.out (Nat.le_refl _)); clear o2; have hz2 := hk1.size; obtain ⟨⟨q0, q1, q2⟩, q3, q4⟩ := HS.out w2 hk1)
      | (go_at_call 34; refine (HC2.out _ (by first | with_reducible exact hk1 | with_reducible exact Kept.drew hk1 | with_reducible exact Kept.alloc hk1 _ | with_reducible exact Kept.drew (Kept.alloc hk1 _))).mono ?_; rintro e w3 ⟨g3, rfl, o3, hb1⟩; (try with_reducible have hXX := @box_call 27 w2 w3 #[.int .i64 0, .int .i64 0, .slice none 0 0] hb1); (try with_reducible have hXX := box_step hXX.1 hb1); replace hk1 : Kept w1 w3 := (by first | with_reducible exact Kept.call hk1 hb1 | with_reducible exact Kept.call (Kept.drew hk1) hb1 | with_reducible exact Kept.call (Kept.alloc hk1 _) hb1 | with_reducible exact Kept.call (Kept.drew (Kept.alloc hk1 _)) hb1); replace hk2 : Kept w2 w3 := (by first | with_reducible exact Kept.call hk2 hb1 | with_reducible exact Kept.call (Kept.drew hk2) hb1 | with_reducible exact Kept.call (Kept.alloc hk2 _) hb1 | with_reducible exact Kept.call (Kept.drew (Kept.alloc hk2 _)) hb1); have hk3 : Kept w3 w3 := Below.refl _ _; have HN3 := Lib.hid (fun (W : World) (hW : Kept w3 W) => (Own.below o3 hW).nums HRG.out (Nat.le_refl _)); clear o3; have hz3 := hk1.size; clear q0 q1 q2 q3 q4)
      | (go_at_call 40; refine (HC3.out _ (by first | with_reducible exact hk1 | with_reducible exact Kept.drew hk1 | with_reducible exact Kept.alloc hk1 _ | with_reducible exact Kept.drew (Kept.alloc hk1 _)) _ _ _ (HN2.out _ (by first | with_reducible exact hk2 | with_reducible exact Kept.drew hk2 | with_reducible exact Kept.alloc hk2 _ | with_reducible exact Kept.drew (Kept.alloc hk2 _))) (Nat.le_refl _) _ _ _ (HN3.out _ (by first | with_reducible exact hk3 | with_reducible exact Kept.drew hk3 | with_reducible exact Kept.alloc hk3 _ | with_reducible exact Kept.drew (Kept.alloc hk3 _))) (Nat.le_refl _)).mono ?_; rintro e w4 ⟨a4, c4, rfl, o4, hb1, hW4⟩; (try with_reducible have hXX := @box_call 27 w3 w4 #[.int .i64 0, .int .i64 0, .slice none 0 0] hb1); (try with_reducible have hXX := box_step hXX.1 hb1); replace hk1 : Kept w1 w4 := (by first | with_reducible exact Kept.call hk1 hb1 | with_reducible exact Kept.call (Kept.drew hk1) hb1 | with_reducible exact Kept.call (Kept.alloc hk1 _) hb1 | with_reducible exact Kept.call (Kept.drew (Kept.alloc hk1 _)) hb1); have hz4 := hk1.size; have O4 := Lib.hid o4; clear o4; (try have hYY := Box.three hXX.1); (try have y0 := hYY.1.1); (try have y1 := hYY.1.2.1); (try have y2 := hYY.1.2.2); (try have y3 := hYY.2.1); (try have y4 := hYY.2.2)))
    all_goals go_wp2_with fail
    all_goals go_meet
    all_goals first
      | exact ⟨_, a4, c4, rfl, rfl, cut_new (O4.out.lower hW4) hk1⟩
      | exact ⟨_, a4, c4, rfl, rfl, cut_old hXX.1 hXX.2 O4.out hW4 (by omega) hk1⟩
  case rest =>
  clear HC1 HC2 HC3 HS hk1
  clear c9 c10 c11 l12
  obtain ⟨b6, a4, c4, rfl, rfl, x6, o6, b5⟩ := hcut
  have z13 : w1.heap.size ≤ wc.heap.size := b5.size
  have K14 := Lib.hid (K6.out.trans (b5.mono (by omega)))
  clear K6
  have K15 := Lib.hid (K7.out.trans (b5.mono (by omega)))
  clear K7
  have X16 := Lib.hid (X8.out.below b5)
  clear X8
  clear b5
  have X6 := Lib.hid x6
  have O6 := Lib.hid (Own.nums o6 HTG.out (Nat.le_refl _))
  clear x6 o6
  have KC := Lib.hid (Below.refl wc.heap.size wc)
  have lb6 : b6 < wc.heap.size := X6.out.lt
  go_wp2_with fail
  refine (toInsS_any w.heap.size wc a p cap hs (HN.out.kept K14.out) (by omega)).mono ?_
  rintro e w5 ⟨rfl, o5, b5⟩
  have z17 : wc.heap.size ≤ w5.heap.size := b5.size
  have K18 := Lib.hid (K14.out.trans (b5.mono (by omega)))
  clear K14
  have K19 := Lib.hid (K15.out.trans (b5.mono (by omega)))
  clear K15
  have K20 := Lib.hid (KC.out.trans (b5.mono (by omega)))
  clear KC
  have X21 := Lib.hid (X16.out.below b5)
  clear X16
  have R22 := Lib.hid o5
  have U23 := Lib.hid (under_of o5)
  have S24 := Lib.hid (bsep_new o5 (show w.heap.size < _ by omega))
  clear o5
  clear b5
  have c25 := X21.out.cell 0
  have c26 := X21.out.cell 1
  have c27 := X21.out.cell 2
  simp at c25 c26 c27
  have l28 := X21.out.lt
  go_wp2_with fail
  refine (toLane_any w.heap.size w5 t pc ra rs rc hq (HR.out.kept K18.out) (by omega)).mono ?_
  rintro e w6 ⟨g6, rfl, o5, b5⟩
  clear c25 c26 c27 l28
  have z29 : w5.heap.size ≤ w6.heap.size := b5.size
  have K30 := Lib.hid (K18.out.trans (b5.mono (by omega)))
  clear K18
  have K31 := Lib.hid (K19.out.trans (b5.mono (by omega)))
  clear K19
  have K32 := Lib.hid (K20.out.trans (b5.mono (by omega)))
  clear K20
  have R33 := Lib.hid (R22.out.below b5)
  clear R22
  have X34 := Lib.hid (X21.out.below b5)
  clear X21
  have R35 := Lib.hid o5
  have U36 := Lib.hid (under_of o5)
  have S37 := Lib.hid (sep_new o5 U23.out (by omega))
  have S38 := Lib.hid (bsep_new o5 (show w.heap.size < _ by omega))
  clear o5
  clear b5
  go_upto_region 11 with fail
  obtain ⟨w7, hw39⟩ : ∃ w', w' = w6.alloc (.cells #[.int .i64 t, .int .i64 pc, .slice (some ⟨g6, 0, none⟩) rs.length rs.length] 27) := ⟨_, rfl⟩
  rw [← hw39]
  have b40 : Below w6.heap.size w6 w7 := by rw [hw39]; exact below1 _ _
  have X41 := Lib.hid (show Box 27 w7 w6.heap.size #[.int .i64 t, .int .i64 pc, .slice (some ⟨g6, 0, none⟩) rs.length rs.length] by rw [hw39]; exact Box.new _ _ _)
  have z42 : w6.heap.size < w7.heap.size := X41.out.lt
  clear hw39
  have z43 : w6.heap.size ≤ w7.heap.size := b40.size
  have K44 := Lib.hid (K30.out.trans (b40.mono (by omega)))
  clear K30
  have K45 := Lib.hid (K31.out.trans (b40.mono (by omega)))
  clear K31
  have K46 := Lib.hid (K32.out.trans (b40.mono (by omega)))
  clear K32
  have R47 := Lib.hid (R33.out.below b40)
  clear R33
  have R48 := Lib.hid (R35.out.below b40)
  clear R35
  have X49 := Lib.hid (X34.out.below b40)
  clear X34
  clear b40
  have S50 := Lib.hid (bsep_old (b := w6.heap.size) U23.out (by omega))
  have S51 := Lib.hid (bsep_old (b := w6.heap.size) U36.out (by omega))
  have c52 := X41.out.cell 0
  have c53 := X41.out.cell 1
  have c54 := X41.out.cell 2
  simp at c52 c53 c54
  have l55 := X41.out.lt
  go_wp2_with fail
  refine (pRunLane_any _ w7 _ p _ hs2 (R47.out.nums HPG.out (Nat.le_refl _)) (Nat.le_refl _) t pc _ _ rs _ hq2 (R48.out.nums HRG.out (Nat.le_refl _)) (Nat.le_refl _) n).mono ?_
  rw [← HYS.out, ← HMM.out, ← HOK.out]
  rintro e w8 ⟨a8, c8, rfl, o5, b5⟩
  clear c52 c53 c54 l55
  have z56 : w7.heap.size ≤ w8.heap.size := b5.size
  have K57 := Lib.hid (K44.out.trans (b5.mono (by omega)))
  clear K44
  have K58 := Lib.hid (K45.out.trans (b5.mono (by omega)))
  clear K45
  have K59 := Lib.hid (K46.out.trans (b5.mono (by omega)))
  clear K46
  have R60 := Lib.hid (R47.out.below b5)
  clear R47
  have R61 := Lib.hid (R48.out.below b5)
  clear R48
  have X62 := Lib.hid (X49.out.below b5)
  clear X49
  have X63 := Lib.hid (X41.out.below b5)
  clear X41
  have R64 := Lib.hid o5
  have U65 := Lib.hid (under_of o5)
  have S66 := Lib.hid (sep_new o5 U23.out (by omega))
  have S67 := Lib.hid (sep_new o5 U36.out (by omega))
  have S68 := Lib.hid (bsep_new o5 (show w.heap.size < _ by omega))
  have S69 := Lib.hid (bsep_new o5 (show w6.heap.size < _ by omega))
  clear o5
  clear b5
  go_upto_region 12 with fail
  obtain ⟨w9, hw70⟩ : ∃ w', w' = w8.alloc (.cells #[.int .i64 t, .int .i64 m, .slice a8 ys.length c8] 27) := ⟨_, rfl⟩
  rw [← hw70]
  have b71 : Below w8.heap.size w8 w9 := by rw [hw70]; exact below1 _ _
  have X72 := Lib.hid (show Box 27 w9 w8.heap.size #[.int .i64 t, .int .i64 m, .slice a8 ys.length c8] by rw [hw70]; exact Box.new _ _ _)
  have z73 : w8.heap.size < w9.heap.size := X72.out.lt
  clear hw70
  have z74 : w8.heap.size ≤ w9.heap.size := b71.size
  have K75 := Lib.hid (K57.out.trans (b71.mono (by omega)))
  clear K57
  have K76 := Lib.hid (K58.out.trans (b71.mono (by omega)))
  clear K58
  have K77 := Lib.hid (K59.out.trans (b71.mono (by omega)))
  clear K59
  have R78 := Lib.hid (R60.out.below b71)
  clear R60
  have R79 := Lib.hid (R61.out.below b71)
  clear R61
  have R80 := Lib.hid (R64.out.below b71)
  clear R64
  have X81 := Lib.hid (X62.out.below b71)
  clear X62
  have X82 := Lib.hid (X63.out.below b71)
  clear X63
  clear b71
  have S83 := Lib.hid (bsep_old (b := w8.heap.size) U23.out (by omega))
  have S84 := Lib.hid (bsep_old (b := w8.heap.size) U36.out (by omega))
  have S85 := Lib.hid (bsep_old (b := w8.heap.size) U65.out (by omega))
  have c86 := X72.out.cell 0
  have c87 := X72.out.cell 1
  have c88 := X72.out.cell 2
  simp at c86 c87 c88
  have l89 := X72.out.lt
  have c90 := (X6.out.below K77.out).cell 0
  have c91 := (X6.out.below K77.out).cell 1
  have c92 := (X6.out.below K77.out).cell 2
  simp at c90 c91 c92
  have l93 := (X6.out.below K77.out).lt
  go_wp2_with fail
  refine (eqLane_same t m a8 a4 _ _ c8 c4 ys w9 hy2 (R80.out.nums HTG.out (Nat.le_refl _)) (O6.out.kept K77.out) (Nat.le_refl _) (by omega)).mono ?_
  rintro e w10 ⟨rfl, b5⟩
  clear c86 c87 c88 l89 c90 c91 c92 l93
  have z94 : w9.heap.size ≤ w10.heap.size := b5.size
  have K95 := Lib.hid (K75.out.trans (b5.mono (by omega)))
  clear K75
  have K96 := Lib.hid (K76.out.trans (b5.mono (by omega)))
  clear K76
  have K97 := Lib.hid (K77.out.trans (b5.mono (by omega)))
  clear K77
  have R98 := Lib.hid (R78.out.below b5)
  clear R78
  have R99 := Lib.hid (R79.out.below b5)
  clear R79
  have R100 := Lib.hid (R80.out.below b5)
  clear R80
  have X101 := Lib.hid (X81.out.below b5)
  clear X81
  have X102 := Lib.hid (X82.out.below b5)
  clear X82
  have X103 := Lib.hid (X72.out.below b5)
  clear X72
  clear b5
  go_wp2_with fail
  refine (toInsS_any w.heap.size w10 a p cap hs (HN.out.kept K95.out) (by omega)).mono ?_
  rintro e w11 ⟨rfl, o5, b5⟩
  have z104 : w10.heap.size ≤ w11.heap.size := b5.size
  have K105 := Lib.hid (K95.out.trans (b5.mono (by omega)))
  clear K95
  have K106 := Lib.hid (K96.out.trans (b5.mono (by omega)))
  clear K96
  have K107 := Lib.hid (K97.out.trans (b5.mono (by omega)))
  clear K97
  have R108 := Lib.hid (R98.out.below b5)
  clear R98
  have R109 := Lib.hid (R99.out.below b5)
  clear R99
  have R110 := Lib.hid (R100.out.below b5)
  clear R100
  have X111 := Lib.hid (X101.out.below b5)
  clear X101
  have X112 := Lib.hid (X102.out.below b5)
  clear X102
  have X113 := Lib.hid (X103.out.below b5)
  clear X103
  clear b5
  have O11 := Lib.hid o5
  clear o5
  go_wp2_with fail
  refine (eqP_same _ _ _ _ _ _ p w11 hs2 (R108.out.nums HPG.out (Nat.le_refl _)) (O11.out.nums HPG.out (Nat.le_refl _)) (Nat.le_refl _) (Nat.le_refl _)).mono ?_
  rintro e w12 ⟨rfl, b5⟩
  have z114 : w11.heap.size ≤ w12.heap.size := b5.size
  have K115 := Lib.hid (K105.out.trans (b5.mono (by omega)))
  clear K105
  have K116 := Lib.hid (K106.out.trans (b5.mono (by omega)))
  clear K106
  have K117 := Lib.hid (K107.out.trans (b5.mono (by omega)))
  clear K107
  have R118 := Lib.hid (R108.out.below b5)
  clear R108
  have R119 := Lib.hid (R109.out.below b5)
  clear R109
  have R120 := Lib.hid (R110.out.below b5)
  clear R110
  have X121 := Lib.hid (X111.out.below b5)
  clear X111
  have X122 := Lib.hid (X112.out.below b5)
  clear X112
  have X123 := Lib.hid (X113.out.below b5)
  clear X113
  clear b5 O11
  have c124 := X122.out.cell 0
  have c125 := X122.out.cell 1
  have c126 := X122.out.cell 2
  simp at c124 c125 c126
  have l127 := X122.out.lt
  have c128 := X121.out.cell 0
  have c129 := X121.out.cell 1
  have c130 := X121.out.cell 2
  simp at c128 c129 c130
  have l131 := X121.out.lt
  go_upto_region 16 with fail
  have HC2 := Lib.hid (fun (W : World) (hW : Kept w12 W) => toLane_any w.heap.size W t pc ra rs rc hq (HR.out.kept (K115.out.trans (Below.mono hW (by omega)))) (by have := hW.size; omega))
  have HN1 := Lib.hid (fun (W : World) (hW : Kept w12 W) => (R119.out.below hW).nums HRG.out (Nat.le_refl _))
  have hk1 : Kept w12 w12 := Below.refl _ _
  have hz0 := hk1.size
  go_region_held3 (fun w' => (w'.cell? ⟨w6.heap.size, 0, none⟩ = some (.int .i64 t) ∧ w'.cell? ⟨w6.heap.size, 1, none⟩ = some (.int .i64 pc) ∧ w'.cell? ⟨w6.heap.size, 2, none⟩ = some (.slice (some ⟨g6, 0, none⟩) rs.length rs.length)) ∧ w'.cell? ⟨w.heap.size, 0, none⟩ = some (.int .i64 t) ∧ w'.cell? ⟨w.heap.size, 1, none⟩ = some (.int .i64 pc) ∧ w'.cell? ⟨w.heap.size, 2, none⟩ = some (.slice ra rs.length rc)) (first | go_keep | ((repeat' apply And.intro) <;> (first | (rw [hb1.cell (by simp; omega)]; simp [*]) | go_keep | (refine Lib.cell?_alloc_some _ ?_; assumption)))) ((first
    | (go_at_call 34; refine (HC2.out _ (by first | with_reducible exact hk1 | with_reducible exact Kept.drew hk1)).mono ?_; rintro e w13 ⟨g13, rfl, o13, hb1⟩; replace hk1 : Kept w12 w13 := (by first | with_reducible exact Kept.call hk1 hb1 | with_reducible exact Kept.call (Kept.drew hk1) hb1); have hz0 := hk1.size; have O13 := Lib.hid o13; clear o13)
    | (go_at_call 35; refine (eqLane_same t pc _ _ _ _ _ _ rs _ hq2 (HN1.out _ (by first | with_reducible exact hk1 | with_reducible exact Kept.drew hk1)) (O13.out.nums HRG.out (Nat.le_refl _)) (Nat.le_refl _) (Nat.le_refl _)).mono ?_; rintro e w14 ⟨rfl, hb1⟩; replace hk1 : Kept w12 w14 := (by first | with_reducible exact Kept.call hk1 hb1 | with_reducible exact Kept.call (Kept.drew hk1) hb1); have hz0 := hk1.size)))
  clear c124 c125 c126 l127 c128 c129 c130 l131
  have b5 : Below w12.heap.size w12 w14 := hk1
  have z132 : w12.heap.size ≤ w14.heap.size := b5.size
  have K133 := Lib.hid (K115.out.trans (b5.mono (by omega)))
  clear K115
  have K134 := Lib.hid (K116.out.trans (b5.mono (by omega)))
  clear K116
  have K135 := Lib.hid (K117.out.trans (b5.mono (by omega)))
  clear K117
  have R136 := Lib.hid (R118.out.below b5)
  clear R118
  have R137 := Lib.hid (R119.out.below b5)
  clear R119
  have R138 := Lib.hid (R120.out.below b5)
  clear R120
  have X139 := Lib.hid (X121.out.below b5)
  clear X121
  have X140 := Lib.hid (X122.out.below b5)
  clear X122
  have X141 := Lib.hid (X123.out.below b5)
  clear X123
  clear hk1 hz0 HC2 HN1 O13 b5
  go_wp2_with fail
  refine (markP_any _ 1 p.length _ (flat p) w14 (by omega) hs2 R136.out).mono ?_
  rintro e w15 ⟨rfl, o5, g5⟩
  obtain ⟨kk, hkk⟩ : ∃ kk : Nat, kk = 1 + p.length * 4 := ⟨_, rfl⟩
  rw [← hkk]
  have hkb : kk ≤ 10000000 := by omega
  clear hkk
  have z142 : w14.heap.size ≤ w15.heap.size := g5.size
  have K143 := Lib.hid (K133.out.trans (mark_below R136.out g5 (by omega) (by omega)))
  clear K133
  have K144 := Lib.hid (K134.out.trans (mark_below R136.out g5 (by omega) (by omega)))
  clear K134
  have K145 := Lib.hid (K135.out.trans (mark_below R136.out g5 (by omega) (by omega)))
  clear K135
  have R146 := Lib.hid (R137.out.sep S37.out g5)
  clear R137
  have R147 := Lib.hid (R138.out.sep S66.out g5)
  clear R138
  have X148 := Lib.hid (X139.out.sep S24.out g5)
  clear X139
  have X149 := Lib.hid (X140.out.sep S50.out g5)
  clear X140
  have X150 := Lib.hid (X141.out.sep S83.out g5)
  clear X141
  clear R136
  have R151 := Lib.hid o5
  clear o5
  clear g5
  have c152 := X149.out.cell 0
  have c153 := X149.out.cell 1
  have c154 := X149.out.cell 2
  simp at c152 c153 c154
  have l155 := X149.out.lt
  go_wp2_with fail
  refine (markLane_any t pc _ kk _ rs w15 (by omega) hq2 R146.out).mono ?_
  rintro e w16 ⟨rfl, o5, g5⟩
  obtain ⟨km, hkm⟩ : ∃ km : Nat, km = kk + rs.length := ⟨_, rfl⟩
  rw [← hkm]
  have hd3 : decide ((km : Int) < 0) = false := by simp
  clear hkm
  clear c152 c153 c154 l155
  have z156 : w15.heap.size ≤ w16.heap.size := g5.size
  have K157 := Lib.hid (K143.out.trans (mark_below R146.out g5 (by omega) (by omega)))
  clear K143
  have K158 := Lib.hid (K144.out.trans (mark_below R146.out g5 (by omega) (by omega)))
  clear K144
  have K159 := Lib.hid (K145.out.trans (mark_below R146.out g5 (by omega) (by omega)))
  clear K145
  have R160 := Lib.hid (R151.out.sep S37.out.symm g5)
  clear R151
  have R161 := Lib.hid (R147.out.sep S67.out g5)
  clear R147
  have X162 := Lib.hid (X148.out.sep S38.out g5)
  clear X148
  have X163 := Lib.hid (X149.out.sep S51.out g5)
  clear X149
  have X164 := Lib.hid (X150.out.sep S84.out g5)
  clear X150
  clear R146
  have R165 := Lib.hid o5
  clear o5
  clear g5
  have c166 := X164.out.cell 0
  have c167 := X164.out.cell 1
  have c168 := X164.out.cell 2
  simp at c166 c167 c168
  have l169 := X164.out.lt
  have c170 := (X6.out.below K159.out).cell 0
  have c171 := (X6.out.below K159.out).cell 1
  have c172 := (X6.out.below K159.out).cell 2
  simp at c170 c171 c172
  have l173 := (X6.out.below K159.out).lt
  go_wp2_with fail
  refine (eqLane_same t m a8 a4 _ _ c8 c4 ys w16 hy2 (R161.out.nums HTG.out (Nat.le_refl _)) (O6.out.kept K159.out) (Nat.le_refl _) (by omega)).mono ?_
  rintro e w17 ⟨rfl, b5⟩
  clear c166 c167 c168 l169 c170 c171 c172 l173
  have z174 : w16.heap.size ≤ w17.heap.size := b5.size
  have K175 := Lib.hid (K157.out.trans (b5.mono (by omega)))
  clear K157
  have K176 := Lib.hid (K158.out.trans (b5.mono (by omega)))
  clear K158
  have K177 := Lib.hid (K159.out.trans (b5.mono (by omega)))
  clear K159
  have R178 := Lib.hid (R160.out.below b5)
  clear R160
  have R179 := Lib.hid (R165.out.below b5)
  clear R165
  have R180 := Lib.hid (R161.out.below b5)
  clear R161
  have X181 := Lib.hid (X162.out.below b5)
  clear X162
  have X182 := Lib.hid (X163.out.below b5)
  clear X163
  have X183 := Lib.hid (X164.out.below b5)
  clear X164
  clear b5
  have c184 := X183.out.cell 0
  have c185 := X183.out.cell 1
  have c186 := X183.out.cell 2
  simp at c184 c185 c186
  have l187 := X183.out.lt
  go_wp2_with fail
  refine (markLane_any t m _ 1 _ ys w17 (by omega) hy2 R180.out).mono ?_
  rintro e w18 ⟨rfl, o5, g5⟩
  obtain ⟨kq, hkq⟩ : ∃ kq : Nat, kq = 1 + ys.length := ⟨_, rfl⟩
  rw [← hkq]
  have hd4 : decide ((kq : Int) < 0) = false := by simp
  have HKQ := Lib.hid hkq
  clear hkq
  clear c184 c185 c186 l187
  have z188 : w17.heap.size ≤ w18.heap.size := g5.size
  have K189 := Lib.hid (K175.out.trans (mark_below R180.out g5 (by omega) (by omega)))
  clear K175
  have K190 := Lib.hid (K176.out.trans (mark_below R180.out g5 (by omega) (by omega)))
  clear K176
  have K191 := Lib.hid (K177.out.trans (mark_below R180.out g5 (by omega) (by omega)))
  clear K177
  have R192 := Lib.hid (R178.out.sep S66.out.symm g5)
  clear R178
  have R193 := Lib.hid (R179.out.sep S67.out.symm g5)
  clear R179
  have X194 := Lib.hid (X181.out.sep S68.out g5)
  clear X181
  have X195 := Lib.hid (X182.out.sep S69.out g5)
  clear X182
  have X196 := Lib.hid (X183.out.sep S85.out g5)
  clear X183
  clear R180
  have R197 := Lib.hid o5
  clear o5
  clear g5
  have c198 := X196.out.cell 0
  have c199 := X196.out.cell 1
  have c200 := X196.out.cell 2
  simp at c198 c199 c200
  have l201 := X196.out.lt
  go_wp2_with fail
  refine (heldLane_any t m _ 1 ys.length _ w18 (by omega) hy2 R197.out).mono ?_
  rintro e w19 ⟨rfl, b5⟩
  rw [← HKQ.out]
  clear c198 c199 c200 l201
  have z202 : w18.heap.size ≤ w19.heap.size := b5.size
  have K203 := Lib.hid (K189.out.trans (b5.mono (by omega)))
  clear K189
  have K204 := Lib.hid (K190.out.trans (b5.mono (by omega)))
  clear K190
  have K205 := Lib.hid (K191.out.trans (b5.mono (by omega)))
  clear K191
  have R206 := Lib.hid (R192.out.below b5)
  clear R192
  have R207 := Lib.hid (R193.out.below b5)
  clear R193
  have R208 := Lib.hid (R197.out.below b5)
  clear R197
  have X209 := Lib.hid (X194.out.below b5)
  clear X194
  have X210 := Lib.hid (X195.out.below b5)
  clear X195
  have X211 := Lib.hid (X196.out.below b5)
  clear X196
  clear b5
  clear R206 U23 S24 S50 S83 S37 S66 R207 U36 S38 S51 S84 S67 X210 S69
  clear hd hd2 hd3 hd4
  have c212 := X209.out.cell 0
  have c213 := X209.out.cell 1
  have c214 := X209.out.cell 2
  simp at c212 c213 c214
  have l215 := X209.out.lt
  go_upto_region 31 with fail
  have HC1 := Lib.hid (fun (W : World) (hW : Kept w19 W) => (toInsS_any w.heap.size W a p cap hs (HN.out.kept (K203.out.trans (Below.mono hW (by omega)))) (by have := hW.size; omega)).mono (R' := fun e w2 => ∃ g : Nat, e = .returned (.slice (some ⟨g, 0, none⟩) p.length p.length) ∧ OwnP W.heap.size w2 (.slice (some ⟨g, 0, none⟩) p.length p.length) p.length (flat p) ∧ Below W.heap.size W w2) (fun e w2 h => ⟨_, h.1, h.2.1, h.2.2⟩))
  have HC2 := Lib.hid (fun (W : World) (hW : Kept w19 W) => toLane_any w.heap.size W t pc ra rs rc hq (HR.out.kept (K203.out.trans (Below.mono hW (by omega)))) (by have := hW.size; omega))
  have HS := Lib.hid (fun (W : World) (hW : Kept w19 W) => ((X209.out.below hW).three))
  have HC3 := fun (W : World) (hW : Kept w19 W) B1 a1 c1 N1 hB1 B2 ad c2 N2 hB2 => (pRunLane_any B1 W a1 p c1 hs2 N1 hB1 t pc B2 (some ad) rs c2 hq2 N2 hB2 n).mono (R' := fun e w4 => ∃ (a4 : Option Addr) (c4 : Nat), e = .returned (.tuple #[.agg #[.int .i64 t, .int .i64 m, .slice a4 ys.length c4], .int .i64 ok]) ∧ Own W.heap.size w4 (.slice a4 ys.length c4) ys ∧ Below W.heap.size W w4 ∧ w19.heap.size ≤ W.heap.size) (by rw [← HYS.out, ← HMM.out, ← HOK.out]; rintro e w4 ⟨a4, c4, h1, h2, h3⟩; exact ⟨a4, c4, h1, h2, h3, hW.size⟩)
  replace HC3 := Lib.hid HC3
  have hk1 : Kept w19 w19 := Below.refl _ _
  go_cut [17, 18] from 98 to 106 (fun s6 s7 wx => ∃ (b6 : Nat) (a4 : Option Addr) (c4 : Nat), s6 = .pointer (some ⟨b6, 0, none⟩) ∧ s7 = .int .i64 ok ∧ Box 27 wx b6 #[.int .i64 t, .int .i64 m, .slice a4 ys.length c4] ∧ Own w19.heap.size wx (.slice a4 ys.length c4) ys ∧ Below w19.heap.size w19 wx)
  case first =>
    obtain ⟨⟨q0, q1, q2⟩, q3, q4⟩ := HS.out w19 hk1
    go_region_with (first
      | (go_at_call 33; refine (HC1.out _ (by first | with_reducible exact hk1 | with_reducible exact Kept.drew hk1 | with_reducible exact Kept.alloc hk1 _ | with_reducible exact Kept.drew (Kept.alloc hk1 _))).mono ?_; rintro e w2 ⟨g2, rfl, o2, hb1⟩; (try with_reducible have hXX := @box_callD 27 w19 w2 #[.int .i64 0, .int .i64 0, .slice none 0 0] hb1); replace hk1 : Kept w19 w2 := (by first | with_reducible exact Kept.call hk1 hb1 | with_reducible exact Kept.call (Kept.drew hk1) hb1 | with_reducible exact Kept.call (Kept.alloc hk1 _) hb1 | with_reducible exact Kept.call (Kept.drew (Kept.alloc hk1 _)) hb1); have hk2 : Kept w2 w2 := Below.refl _ _; have HN2 := Lib.hid (fun (W : World) (hW : Kept w2 W) => (OwnP.below o2 hW).nums HPG.out (Nat.le_refl _)); clear o2; have hz2 := hk1.size; obtain ⟨⟨q0, q1, q2⟩, q3, q4⟩ := HS.out w2 hk1)
      | (go_at_call 34; refine (HC2.out _ (by first | with_reducible exact hk1 | with_reducible exact Kept.drew hk1 | with_reducible exact Kept.alloc hk1 _ | with_reducible exact Kept.drew (Kept.alloc hk1 _))).mono ?_; rintro e w3 ⟨g3, rfl, o3, hb1⟩; (try with_reducible have hXX := @box_call 27 w2 w3 #[.int .i64 0, .int .i64 0, .slice none 0 0] hb1); (try with_reducible have hXX := box_step hXX.1 hb1); replace hk1 : Kept w19 w3 := (by first | with_reducible exact Kept.call hk1 hb1 | with_reducible exact Kept.call (Kept.drew hk1) hb1 | with_reducible exact Kept.call (Kept.alloc hk1 _) hb1 | with_reducible exact Kept.call (Kept.drew (Kept.alloc hk1 _)) hb1); replace hk2 : Kept w2 w3 := (by first | with_reducible exact Kept.call hk2 hb1 | with_reducible exact Kept.call (Kept.drew hk2) hb1 | with_reducible exact Kept.call (Kept.alloc hk2 _) hb1 | with_reducible exact Kept.call (Kept.drew (Kept.alloc hk2 _)) hb1); have hk3 : Kept w3 w3 := Below.refl _ _; have HN3 := Lib.hid (fun (W : World) (hW : Kept w3 W) => (Own.below o3 hW).nums HRG.out (Nat.le_refl _)); clear o3; have hz3 := hk1.size; clear q0 q1 q2 q3 q4)
      | (go_at_call 24; refine (HC3.out _ (by first | with_reducible exact hk1 | with_reducible exact Kept.drew hk1 | with_reducible exact Kept.alloc hk1 _ | with_reducible exact Kept.drew (Kept.alloc hk1 _)) _ _ _ (HN2.out _ (by first | with_reducible exact hk2 | with_reducible exact Kept.drew hk2 | with_reducible exact Kept.alloc hk2 _ | with_reducible exact Kept.drew (Kept.alloc hk2 _))) (Nat.le_refl _) _ _ _ (HN3.out _ (by first | with_reducible exact hk3 | with_reducible exact Kept.drew hk3 | with_reducible exact Kept.alloc hk3 _ | with_reducible exact Kept.drew (Kept.alloc hk3 _))) (Nat.le_refl _)).mono ?_; rintro e w4 ⟨a4, c4, rfl, o4, hb1, hW4⟩; (try with_reducible have hXX := @box_call 27 w3 w4 #[.int .i64 0, .int .i64 0, .slice none 0 0] hb1); (try with_reducible have hXX := box_step hXX.1 hb1); replace hk1 : Kept w19 w4 := (by first | with_reducible exact Kept.call hk1 hb1 | with_reducible exact Kept.call (Kept.drew hk1) hb1 | with_reducible exact Kept.call (Kept.alloc hk1 _) hb1 | with_reducible exact Kept.call (Kept.drew (Kept.alloc hk1 _)) hb1); have hz4 := hk1.size; have O4 := Lib.hid o4; clear o4; (try have hYY := Box.three hXX.1); (try have y0 := hYY.1.1); (try have y1 := hYY.1.2.1); (try have y2 := hYY.1.2.2); (try have y3 := hYY.2.1); (try have y4 := hYY.2.2)))
    all_goals go_wp2_with fail
    all_goals go_meet
    all_goals first
      | exact ⟨_, a4, c4, rfl, rfl, cut_new (O4.out.lower hW4) hk1⟩
      | exact ⟨_, a4, c4, rfl, rfl, cut_old hXX.1 hXX.2 O4.out hW4 (by omega) hk1⟩
  case rest =>
  clear HC1 HC2 HC3 HS hk1
  clear c212 c213 c214 l215
  obtain ⟨b15, a15, c15, rfl, rfl, x6, o6, b5⟩ := hcut
  have z216 : w19.heap.size ≤ wc.heap.size := b5.size
  have K217 := Lib.hid (K203.out.trans (b5.mono (by omega)))
  clear K203
  have K218 := Lib.hid (K204.out.trans (b5.mono (by omega)))
  clear K204
  have K219 := Lib.hid (K205.out.trans (b5.mono (by omega)))
  clear K205
  have R220 := Lib.hid (R208.out.below b5)
  clear R208
  have X221 := Lib.hid (X209.out.below b5)
  clear X209
  have X222 := Lib.hid (X211.out.below b5)
  clear X211
  clear b5
  have X15 := Lib.hid x6
  have O15 := Lib.hid (Own.nums o6 HTG.out (Nat.le_refl _))
  clear x6 o6
  have c223 := (X6.out.below K219.out).cell 0
  have c224 := (X6.out.below K219.out).cell 1
  have c225 := (X6.out.below K219.out).cell 2
  simp at c223 c224 c225
  have l226 := (X6.out.below K219.out).lt
  have c227 := X15.out.cell 0
  have c228 := X15.out.cell 1
  have c229 := X15.out.cell 2
  simp at c227 c228 c229
  have l230 := X15.out.lt
  go_wp2_with fail
  refine (eqLane_same t m a15 a4 _ _ c15 c4 ys wc hy2 O15.out (O6.out.kept K219.out) (Nat.le_refl _) (by omega)).mono ?_
  rintro e w21 ⟨rfl, b5⟩
  clear c223 c224 c225 l226 c227 c228 c229 l230
  have z231 : wc.heap.size ≤ w21.heap.size := b5.size
  have K232 := Lib.hid (K217.out.trans (b5.mono (by omega)))
  clear K217
  have K233 := Lib.hid (K218.out.trans (b5.mono (by omega)))
  clear K218
  have K234 := Lib.hid (K219.out.trans (b5.mono (by omega)))
  clear K219
  have R235 := Lib.hid (R220.out.below b5)
  clear R220
  have X236 := Lib.hid (X221.out.below b5)
  clear X221
  have X237 := Lib.hid (X222.out.below b5)
  clear X222
  clear b5
  have c238 := X237.out.cell 0
  have c239 := X237.out.cell 1
  have c240 := X237.out.cell 2
  simp at c238 c239 c240
  have l241 := X237.out.lt
  go_wp2_with fail
  refine (heldLane_any t m _ 1 ys.length _ w21 (by omega) hy2 R235.out).mono ?_
  rintro e w22 ⟨rfl, b5⟩
  rw [← HKQ.out]
  clear c238 c239 c240 l241
  have z242 : w21.heap.size ≤ w22.heap.size := b5.size
  have K243 := Lib.hid (K232.out.trans (b5.mono (by omega)))
  clear K232
  have K244 := Lib.hid (K233.out.trans (b5.mono (by omega)))
  clear K233
  have K245 := Lib.hid (K234.out.trans (b5.mono (by omega)))
  clear K234
  have R246 := Lib.hid (R235.out.below b5)
  clear R235
  have X247 := Lib.hid (X236.out.below b5)
  clear X236
  have X248 := Lib.hid (X237.out.below b5)
  clear X237
  clear b5
  go_wp2_with fail
  go_ret
  exact ⟨rfl, K243.out⟩

end Go.Proofs.Ytmiopbpahkgmbaa
