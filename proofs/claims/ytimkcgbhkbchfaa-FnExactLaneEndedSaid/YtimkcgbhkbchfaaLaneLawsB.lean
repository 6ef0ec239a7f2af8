/- Lanes: the exact laws that answer a truth. -/
import Derived.Test.YtimkcgbhkbchfaaLaneR
import Derived.Test.YtimkcgbhkbchfaaLaneL
import Derived.Test.YtimkcgbhkbchfaaSep
import Derived.Deep.CutRange
namespace Go.Proofs.Ytimkcgbhkbchfaa
open Go.RowKit Go

set_option maxRecDepth 100000 in
set_option maxHeartbeats 8000000 in
theorem fnExactLaneOk_walk (a : Option Addr) (p : List I4) (cap : Nat) (t pc : Int) (ra : Option Addr) (n2 rc : Nat) (zs : List Int) (w : World) (hm : p.length ≤ maxLen) (hn : Nums w.heap.size w a (flat p)) (hr : IsRow .i64 w ra n2 rc zs) :
    Calls Try.prog 6 #[.slice a p.length cap, .agg #[.int .i64 t, .int .i64 pc, .slice ra n2 rc]] w fun e w' => e = .returned (.bool true) ∧ Below w.heap.size w w' := by
  obtain ⟨rs, rfl, hm2, hn2⟩ := hr.nums
  clear hr zs
  have hm' : p.length ≤ 9223372036854775807 := by unfold maxLen at hm; omega
  have hm2' : rs.length ≤ 9223372036854775807 := by unfold maxLen at hm2; omega
  have HN := Lib.hid hn
  have HR := Lib.hid hn2
  have hz := fun W => szP_any a p.length cap 1048576 W (by omega) (by omega) hm'
  clear hn hm hn2 hm2
  by_cases hbig : 1048576 < p.length
  · rw [if_pos (by omega)] at hz
    replace hz := Lib.hid hz
    go_enter Try.func6, Try.ntmps6
    go_wp2_with fail
    refine (hz.out _).mono ?_
    rintro e w' ⟨rfl, rfl⟩
    go_wp2_with fail
    go_ret
    exact ⟨rfl, below1 _ _⟩
  rw [if_neg (by omega)] at hz
  have hd : decide ((1048576 : Int) - (p.length : Int) < 0) = false := by simp; omega
  replace hz := Lib.hid hz
  have hy := fun W => szLane_any t pc ra rs.length rc (1048576 - (p.length : Int)) W (by omega) (by omega) hm2'
  by_cases hbig2 : 1048576 - (p.length : Int) < rs.length
  · rw [if_pos hbig2] at hy
    replace hy := Lib.hid hy
    go_enter Try.func6, Try.ntmps6
    go_wp2_with fail
    refine (hz.out _).mono ?_
    rintro e w' ⟨rfl, rfl⟩
    go_wp2_with fail
    refine (hy.out _).mono ?_
    rintro e w1 ⟨rfl, b1⟩
    go_wp2_with fail
    go_ret
    exact ⟨rfl, (below1 _ _).trans (b1.mono (by simp))⟩
  rw [if_neg hbig2] at hy
  have hd2 : decide ((1048576 : Int) - (p.length : Int) - (rs.length : Int) < 0) = false := by simp; omega
  replace hy := Lib.hid hy
  have hs : p.length ≤ 1048576 := by omega
  have hs2 : p.length ≤ 10000000 := by omega
  have hq : rs.length ≤ 1048576 := by omega
  have hq2 : rs.length ≤ 10000000 := by omega
  clear hbig hbig2 hm' hm2'
  have HPG := Lib.hid HN.out.1
  have HRG := Lib.hid HR.out.1
  obtain ⟨v, hv⟩ : ∃ v, v = (laneOk p t pc rs) := ⟨_, rfl⟩
  have HV := Lib.hid hv
  clear hv
  obtain ⟨wb, hwb⟩ : ∃ wb, wb = w.alloc (.cells #[.int .i64 t, .int .i64 pc, .slice ra rs.length rc] 47) := ⟨_, rfl⟩
  have bwb : Below w.heap.size w wb := by rw [hwb]; exact below1 _ _
  have XA := Lib.hid (show Box 47 wb w.heap.size #[.int .i64 t, .int .i64 pc, .slice ra rs.length rc] by rw [hwb]; exact Box.new _ _ _)
  have zb : w.heap.size < wb.heap.size := XA.out.lt
  have KA := Lib.hid bwb
  have KB := Lib.hid (Below.refl wb.heap.size wb)
  clear bwb
  go_enter Try.func6, Try.ntmps6
  go_upto_region 1 with fail
  rw [← hwb]
  clear hwb
  have c1 := XA.out.cell 0
  have c2 := XA.out.cell 1
  have c3 := XA.out.cell 2
  simp at c1 c2 c3
  have l4 := XA.out.lt
  go_wp2_with fail
  refine (hz.out _).mono ?_
  rintro e w' ⟨rfl, rfl⟩
  go_wp2_with fail
  refine (hy.out _).mono ?_
  rintro e w1 ⟨rfl, b1⟩
  clear hz hy
  have z5 : wb.heap.size ≤ w1.heap.size := b1.size
  have K6 := Lib.hid (KA.out.trans (b1.mono (by omega)))
  clear KA
  have K7 := Lib.hid (KB.out.trans (b1.mono (by omega)))
  clear KB
  have X8 := Lib.hid (XA.out.below b1)
  clear XA
  clear b1 c1 c2 c3 l4
  have c9 := X8.out.cell 0
  have c10 := X8.out.cell 1
  have c11 := X8.out.cell 2
  simp at c9 c10 c11
  have l12 := X8.out.lt
  go_upto_region 8 with fail
  have HC1 := Lib.hid (fun (W : World) (hW : Kept w1 W) => toInsS_any w.heap.size W a p cap hs (HN.out.kept (K6.out.trans (Below.mono hW (by omega)))) (by have := hW.size; omega))
  have HC2 := Lib.hid (fun (W : World) (hW : Kept w1 W) => toLane_any w.heap.size W t pc ra rs rc hq (HR.out.kept (K6.out.trans (Below.mono hW (by omega)))) (by have := hW.size; omega))
  have hk1 : Kept w1 w1 := Below.refl _ _
  have hz1 := hk1.size
  go_region_held3 (fun w' => w'.cell? ⟨w.heap.size, 0, none⟩ = some (.int .i64 t) ∧ w'.cell? ⟨w.heap.size, 1, none⟩ = some (.int .i64 pc) ∧ w'.cell? ⟨w.heap.size, 2, none⟩ = some (.slice ra rs.length rc)) (first | go_keep | ((repeat' apply And.intro) <;> (first | (rw [hb1.cell (by simp; omega)]; simp [*]) | go_keep | (refine Lib.cell?_alloc_some _ ?_; assumption)))) ((first
    | (go_at_call 30; refine (HC1.out _ (by first | with_reducible exact hk1 | with_reducible exact Kept.drew hk1)).mono ?_; rintro e w2 ⟨rfl, o2, hb1⟩; replace hk1 : Kept w1 w2 := (by first | with_reducible exact Kept.call hk1 hb1 | with_reducible exact Kept.call (Kept.drew hk1) hb1); have hz2 := hk1.size; have hk2 : Kept w2 w2 := Below.refl _ _; have HN2 := Lib.hid (fun (W : World) (hW : Kept w2 W) => (OwnP.below o2 hW).nums HPG.out (Nat.le_refl _)); clear o2)
    | (go_at_call 31; refine (HC2.out _ (by first | with_reducible exact hk1 | with_reducible exact Kept.drew hk1)).mono ?_; rintro e w3 ⟨g3, rfl, o3, hb1⟩; replace hk1 : Kept w1 w3 := (by first | with_reducible exact Kept.call hk1 hb1 | with_reducible exact Kept.call (Kept.drew hk1) hb1); replace hk2 : Kept w2 w3 := (by first | with_reducible exact Kept.call hk2 hb1 | with_reducible exact Kept.call (Kept.drew hk2) hb1); have hz3 := hk1.size; have HN3 := Lib.hid (Own.nums o3 HRG.out (Nat.le_refl _)); clear o3)
    | (go_at_call 29; refine (sLaneOk_any _ _ _ p _ hs2 (HN2.out _ (by first | with_reducible exact hk2 | with_reducible exact Kept.drew hk2)) (Nat.le_refl _) t pc _ _ rs _ hq2 HN3.out (Nat.le_refl _)).mono ?_; rw [← HV.out]; rintro e w4 ⟨rfl, hb1⟩; replace hk1 : Kept w1 w4 := (by first | with_reducible exact Kept.call hk1 hb1 | with_reducible exact Kept.call (Kept.drew hk1) hb1); have hz4 := hk1.size)))
  clear c9 c10 c11 l12
  have b5 : Below w1.heap.size w1 w4 := hk1
  have z13 : w1.heap.size ≤ w4.heap.size := b5.size
  have K14 := Lib.hid (K6.out.trans (b5.mono (by omega)))
  clear K6
  have K15 := Lib.hid (K7.out.trans (b5.mono (by omega)))
  clear K7
  have X16 := Lib.hid (X8.out.below b5)
  clear X8
  clear hk1 hk2 HC1 HC2 HN2 HN3 b5
  go_wp2_with fail
  refine (toInsS_any w.heap.size w4 a p cap hs (HN.out.kept K14.out) (by omega)).mono ?_
  rintro e w5 ⟨rfl, o5, b5⟩
  have z17 : w4.heap.size ≤ w5.heap.size := b5.size
  have K18 := Lib.hid (K14.out.trans (b5.mono (by omega)))
  clear K14
  have K19 := Lib.hid (K15.out.trans (b5.mono (by omega)))
  clear K15
  have X20 := Lib.hid (X16.out.below b5)
  clear X16
  have R21 := Lib.hid o5
  have U22 := Lib.hid (under_of o5)
  have S23 := Lib.hid (bsep_new o5 (show w.heap.size < _ by omega))
  clear o5
  clear b5
  have c24 := X20.out.cell 0
  have c25 := X20.out.cell 1
  have c26 := X20.out.cell 2
  simp at c24 c25 c26
  have l27 := X20.out.lt
  go_wp2_with fail
  refine (toLane_any w.heap.size w5 t pc ra rs rc hq (HR.out.kept K18.out) (by omega)).mono ?_
  rintro e w6 ⟨g6, rfl, o5, b5⟩
  clear c24 c25 c26 l27
  have z28 : w5.heap.size ≤ w6.heap.size := b5.size
  have K29 := Lib.hid (K18.out.trans (b5.mono (by omega)))
  clear K18
  have K30 := Lib.hid (K19.out.trans (b5.mono (by omega)))
  clear K19
  have R31 := Lib.hid (R21.out.below b5)
  clear R21
  have X32 := Lib.hid (X20.out.below b5)
  clear X20
  have R33 := Lib.hid o5
  have U34 := Lib.hid (under_of o5)
  have S35 := Lib.hid (sep_new o5 U22.out (by omega))
  have S36 := Lib.hid (bsep_new o5 (show w.heap.size < _ by omega))
  clear o5
  clear b5
  go_upto_region 11 with fail
  obtain ⟨w7, hw37⟩ : ∃ w', w' = w6.alloc (.cells #[.int .i64 t, .int .i64 pc, .slice (some ⟨g6, 0, none⟩) rs.length rs.length] 27) := ⟨_, rfl⟩
  rw [← hw37]
  have b38 : Below w6.heap.size w6 w7 := by rw [hw37]; exact below1 _ _
  have X39 := Lib.hid (show Box 27 w7 w6.heap.size #[.int .i64 t, .int .i64 pc, .slice (some ⟨g6, 0, none⟩) rs.length rs.length] by rw [hw37]; exact Box.new _ _ _)
  have z40 : w6.heap.size < w7.heap.size := X39.out.lt
  clear hw37
  have z41 : w6.heap.size ≤ w7.heap.size := b38.size
  have K42 := Lib.hid (K29.out.trans (b38.mono (by omega)))
  clear K29
  have K43 := Lib.hid (K30.out.trans (b38.mono (by omega)))
  clear K30
  have R44 := Lib.hid (R31.out.below b38)
  clear R31
  have R45 := Lib.hid (R33.out.below b38)
  clear R33
  have X46 := Lib.hid (X32.out.below b38)
  clear X32
  clear b38
  have S47 := Lib.hid (bsep_old (b := w6.heap.size) U22.out (by omega))
  have S48 := Lib.hid (bsep_old (b := w6.heap.size) U34.out (by omega))
  have c49 := X39.out.cell 0
  have c50 := X39.out.cell 1
  have c51 := X39.out.cell 2
  simp at c49 c50 c51
  have l52 := X39.out.lt
  go_wp2_with fail
  refine (pLaneOk_any _ w7 _ p _ hs2 (R44.out.nums HPG.out (Nat.le_refl _)) (Nat.le_refl _) t pc _ _ rs _ hq2 (R45.out.nums HRG.out (Nat.le_refl _)) (Nat.le_refl _)).mono ?_
  rw [← HV.out]
  rintro e w8 ⟨rfl, b5⟩
  clear c49 c50 c51 l52
  have z53 : w7.heap.size ≤ w8.heap.size := b5.size
  have K54 := Lib.hid (K42.out.trans (b5.mono (by omega)))
  clear K42
  have K55 := Lib.hid (K43.out.trans (b5.mono (by omega)))
  clear K43
  have R56 := Lib.hid (R44.out.below b5)
  clear R44
  have R57 := Lib.hid (R45.out.below b5)
  clear R45
  have X58 := Lib.hid (X46.out.below b5)
  clear X46
  have X59 := Lib.hid (X39.out.below b5)
  clear X39
  clear b5
  go_wp2_with fail
  refine (toInsS_any w.heap.size w8 a p cap hs (HN.out.kept K54.out) (by omega)).mono ?_
  rintro e w11 ⟨rfl, o5, b5⟩
  have z60 : w8.heap.size ≤ w11.heap.size := b5.size
  have K61 := Lib.hid (K54.out.trans (b5.mono (by omega)))
  clear K54
  have K62 := Lib.hid (K55.out.trans (b5.mono (by omega)))
  clear K55
  have R63 := Lib.hid (R56.out.below b5)
  clear R56
  have R64 := Lib.hid (R57.out.below b5)
  clear R57
  have X65 := Lib.hid (X58.out.below b5)
  clear X58
  have X66 := Lib.hid (X59.out.below b5)
  clear X59
  clear b5
  have O11 := Lib.hid o5
  clear o5
  go_wp2_with fail
  refine (eqP_same _ _ _ _ _ _ p w11 hs2 (R63.out.nums HPG.out (Nat.le_refl _)) (O11.out.nums HPG.out (Nat.le_refl _)) (Nat.le_refl _) (Nat.le_refl _)).mono ?_
  rintro e w12 ⟨rfl, b5⟩
  have z67 : w11.heap.size ≤ w12.heap.size := b5.size
  have K68 := Lib.hid (K61.out.trans (b5.mono (by omega)))
  clear K61
  have K69 := Lib.hid (K62.out.trans (b5.mono (by omega)))
  clear K62
  have R70 := Lib.hid (R63.out.below b5)
  clear R63
  have R71 := Lib.hid (R64.out.below b5)
  clear R64
  have X72 := Lib.hid (X65.out.below b5)
  clear X65
  have X73 := Lib.hid (X66.out.below b5)
  clear X66
  clear b5 O11
  have c74 := X73.out.cell 0
  have c75 := X73.out.cell 1
  have c76 := X73.out.cell 2
  simp at c74 c75 c76
  have l77 := X73.out.lt
  have c78 := X72.out.cell 0
  have c79 := X72.out.cell 1
  have c80 := X72.out.cell 2
  simp at c78 c79 c80
  have l81 := X72.out.lt
  go_upto_region 16 with fail
  have HC2 := Lib.hid (fun (W : World) (hW : Kept w12 W) => toLane_any w.heap.size W t pc ra rs rc hq (HR.out.kept (K68.out.trans (Below.mono hW (by omega)))) (by have := hW.size; omega))
  have HN1 := Lib.hid (fun (W : World) (hW : Kept w12 W) => (R71.out.below hW).nums HRG.out (Nat.le_refl _))
  have hk1 : Kept w12 w12 := Below.refl _ _
  have hz0 := hk1.size
  go_region_held3 (fun w' => (w'.cell? ⟨w6.heap.size, 0, none⟩ = some (.int .i64 t) ∧ w'.cell? ⟨w6.heap.size, 1, none⟩ = some (.int .i64 pc) ∧ w'.cell? ⟨w6.heap.size, 2, none⟩ = some (.slice (some ⟨g6, 0, none⟩) rs.length rs.length)) ∧ w'.cell? ⟨w.heap.size, 0, none⟩ = some (.int .i64 t) ∧ w'.cell? ⟨w.heap.size, 1, none⟩ = some (.int .i64 pc) ∧ w'.cell? ⟨w.heap.size, 2, none⟩ = some (.slice ra rs.length rc)) (first | go_keep | ((repeat' apply And.intro) <;> (first | (rw [hb1.cell (by simp; omega)]; simp [*]) | go_keep | (refine Lib.cell?_alloc_some _ ?_; assumption)))) ((first
    | (go_at_call 31; refine (HC2.out _ (by first | with_reducible exact hk1 | with_reducible exact Kept.drew hk1)).mono ?_; rintro e w13 ⟨g13, rfl, o13, hb1⟩; replace hk1 : Kept w12 w13 := (by first | with_reducible exact Kept.call hk1 hb1 | with_reducible exact Kept.call (Kept.drew hk1) hb1); have hz0 := hk1.size; have O13 := Lib.hid o13; clear o13)
    | (go_at_call 24; refine (eqLane_same t pc _ _ _ _ _ _ rs _ hq2 (HN1.out _ (by first | with_reducible exact hk1 | with_reducible exact Kept.drew hk1)) (O13.out.nums HRG.out (Nat.le_refl _)) (Nat.le_refl _) (Nat.le_refl _)).mono ?_; rintro e w14 ⟨rfl, hb1⟩; replace hk1 : Kept w12 w14 := (by first | with_reducible exact Kept.call hk1 hb1 | with_reducible exact Kept.call (Kept.drew hk1) hb1); have hz0 := hk1.size)))
  clear c74 c75 c76 l77 c78 c79 c80 l81
  have b5 : Below w12.heap.size w12 w14 := hk1
  have z82 : w12.heap.size ≤ w14.heap.size := b5.size
  have K83 := Lib.hid (K68.out.trans (b5.mono (by omega)))
  clear K68
  have K84 := Lib.hid (K69.out.trans (b5.mono (by omega)))
  clear K69
  have R85 := Lib.hid (R70.out.below b5)
  clear R70
  have R86 := Lib.hid (R71.out.below b5)
  clear R71
  have X87 := Lib.hid (X72.out.below b5)
  clear X72
  have X88 := Lib.hid (X73.out.below b5)
  clear X73
  clear hk1 hz0 HC2 HN1 O13 b5
  go_wp2_with fail
  go_ret
  exact ⟨rfl, K83.out⟩

set_option maxRecDepth 100000 in
set_option maxHeartbeats 8000000 in
theorem fnExactLaneEnded_walk (a : Option Addr) (p : List I4) (cap : Nat) (t pc : Int) (ra : Option Addr) (n2 rc : Nat) (zs : List Int) (w : World) (hm : p.length ≤ maxLen) (hn : Nums w.heap.size w a (flat p)) (hr : IsRow .i64 w ra n2 rc zs) :
    Calls Try.prog 7 #[.slice a p.length cap, .agg #[.int .i64 t, .int .i64 pc, .slice ra n2 rc]] w fun e w' => e = .returned (.bool true) ∧ Below w.heap.size w w' := by
  obtain ⟨rs, rfl, hm2, hn2⟩ := hr.nums
  clear hr zs
  have hm' : p.length ≤ 9223372036854775807 := by unfold maxLen at hm; omega
  have hm2' : rs.length ≤ 9223372036854775807 := by unfold maxLen at hm2; omega
  have HN := Lib.hid hn
  have HR := Lib.hid hn2
  have hz := fun W => szP_any a p.length cap 1048576 W (by omega) (by omega) hm'
  clear hn hm hn2 hm2
  by_cases hbig : 1048576 < p.length
  · rw [if_pos (by omega)] at hz
    replace hz := Lib.hid hz
    go_enter Try.func7, Try.ntmps7
    go_wp2_with fail
    refine (hz.out _).mono ?_
    rintro e w' ⟨rfl, rfl⟩
    go_wp2_with fail
    go_ret
    exact ⟨rfl, below1 _ _⟩
  rw [if_neg (by omega)] at hz
  have hd : decide ((1048576 : Int) - (p.length : Int) < 0) = false := by simp; omega
  replace hz := Lib.hid hz
  have hy := fun W => szLane_any t pc ra rs.length rc (1048576 - (p.length : Int)) W (by omega) (by omega) hm2'
  by_cases hbig2 : 1048576 - (p.length : Int) < rs.length
  · rw [if_pos hbig2] at hy
    replace hy := Lib.hid hy
    go_enter Try.func7, Try.ntmps7
    go_wp2_with fail
    refine (hz.out _).mono ?_
    rintro e w' ⟨rfl, rfl⟩
    go_wp2_with fail
    refine (hy.out _).mono ?_
    rintro e w1 ⟨rfl, b1⟩
    go_wp2_with fail
    go_ret
    exact ⟨rfl, (below1 _ _).trans (b1.mono (by simp))⟩
  rw [if_neg hbig2] at hy
  have hd2 : decide ((1048576 : Int) - (p.length : Int) - (rs.length : Int) < 0) = false := by simp; omega
  replace hy := Lib.hid hy
  have hs : p.length ≤ 1048576 := by omega
  have hs2 : p.length ≤ 10000000 := by omega
  have hq : rs.length ≤ 1048576 := by omega
  have hq2 : rs.length ≤ 10000000 := by omega
  clear hbig hbig2 hm' hm2'
  have HPG := Lib.hid HN.out.1
  have HRG := Lib.hid HR.out.1
  obtain ⟨v, hv⟩ : ∃ v, v = (endedQ p t pc rs) := ⟨_, rfl⟩
  have HV := Lib.hid hv
  clear hv
  obtain ⟨wb, hwb⟩ : ∃ wb, wb = w.alloc (.cells #[.int .i64 t, .int .i64 pc, .slice ra rs.length rc] 47) := ⟨_, rfl⟩
  have bwb : Below w.heap.size w wb := by rw [hwb]; exact below1 _ _
  have XA := Lib.hid (show Box 47 wb w.heap.size #[.int .i64 t, .int .i64 pc, .slice ra rs.length rc] by rw [hwb]; exact Box.new _ _ _)
  have zb : w.heap.size < wb.heap.size := XA.out.lt
  have KA := Lib.hid bwb
  have KB := Lib.hid (Below.refl wb.heap.size wb)
  clear bwb
  go_enter Try.func7, Try.ntmps7
  go_upto_region 1 with fail
  rw [← hwb]
  clear hwb
  have c1 := XA.out.cell 0
  have c2 := XA.out.cell 1
  have c3 := XA.out.cell 2
  simp at c1 c2 c3
  have l4 := XA.out.lt
  go_wp2_with fail
  refine (hz.out _).mono ?_
  rintro e w' ⟨rfl, rfl⟩
  go_wp2_with fail
  refine (hy.out _).mono ?_
  rintro e w1 ⟨rfl, b1⟩
  clear hz hy
  have z5 : wb.heap.size ≤ w1.heap.size := b1.size
  have K6 := Lib.hid (KA.out.trans (b1.mono (by omega)))
  clear KA
  have K7 := Lib.hid (KB.out.trans (b1.mono (by omega)))
  clear KB
  have X8 := Lib.hid (XA.out.below b1)
  clear XA
  clear b1 c1 c2 c3 l4
  have c9 := X8.out.cell 0
  have c10 := X8.out.cell 1
  have c11 := X8.out.cell 2
  simp at c9 c10 c11
  have l12 := X8.out.lt
  go_upto_region 8 with fail
  have HC1 := Lib.hid (fun (W : World) (hW : Kept w1 W) => toInsS_any w.heap.size W a p cap hs (HN.out.kept (K6.out.trans (Below.mono hW (by omega)))) (by have := hW.size; omega))
  have HC2 := Lib.hid (fun (W : World) (hW : Kept w1 W) => toLane_any w.heap.size W t pc ra rs rc hq (HR.out.kept (K6.out.trans (Below.mono hW (by omega)))) (by have := hW.size; omega))
  have hk1 : Kept w1 w1 := Below.refl _ _
  have hz1 := hk1.size
  go_region_held3 (fun w' => w'.cell? ⟨w.heap.size, 0, none⟩ = some (.int .i64 t) ∧ w'.cell? ⟨w.heap.size, 1, none⟩ = some (.int .i64 pc) ∧ w'.cell? ⟨w.heap.size, 2, none⟩ = some (.slice ra rs.length rc)) (first | go_keep | ((repeat' apply And.intro) <;> (first | (rw [hb1.cell (by simp; omega)]; simp [*]) | go_keep | (refine Lib.cell?_alloc_some _ ?_; assumption)))) ((first
    | (go_at_call 30; refine (HC1.out _ (by first | with_reducible exact hk1 | with_reducible exact Kept.drew hk1)).mono ?_; rintro e w2 ⟨rfl, o2, hb1⟩; replace hk1 : Kept w1 w2 := (by first | with_reducible exact Kept.call hk1 hb1 | with_reducible exact Kept.call (Kept.drew hk1) hb1); have hz2 := hk1.size; have hk2 : Kept w2 w2 := Below.refl _ _; have HN2 := Lib.hid (fun (W : World) (hW : Kept w2 W) => (OwnP.below o2 hW).nums HPG.out (Nat.le_refl _)); clear o2)
    | (go_at_call 31; refine (HC2.out _ (by first | with_reducible exact hk1 | with_reducible exact Kept.drew hk1)).mono ?_; rintro e w3 ⟨g3, rfl, o3, hb1⟩; replace hk1 : Kept w1 w3 := (by first | with_reducible exact Kept.call hk1 hb1 | with_reducible exact Kept.call (Kept.drew hk1) hb1); replace hk2 : Kept w2 w3 := (by first | with_reducible exact Kept.call hk2 hb1 | with_reducible exact Kept.call (Kept.drew hk2) hb1); have hz3 := hk1.size; have HN3 := Lib.hid (Own.nums o3 HRG.out (Nat.le_refl _)); clear o3)
    | (go_at_call 33; refine (sLaneEnded_any _ _ _ p _ hs2 (HN2.out _ (by first | with_reducible exact hk2 | with_reducible exact Kept.drew hk2)) (Nat.le_refl _) t pc _ _ rs _ hq2 HN3.out (Nat.le_refl _)).mono ?_; rw [← HV.out]; rintro e w4 ⟨rfl, hb1⟩; replace hk1 : Kept w1 w4 := (by first | with_reducible exact Kept.call hk1 hb1 | with_reducible exact Kept.call (Kept.drew hk1) hb1); have hz4 := hk1.size)))
  clear c9 c10 c11 l12
  have b5 : Below w1.heap.size w1 w4 := hk1
  have z13 : w1.heap.size ≤ w4.heap.size := b5.size
  have K14 := Lib.hid (K6.out.trans (b5.mono (by omega)))
  clear K6
  have K15 := Lib.hid (K7.out.trans (b5.mono (by omega)))
  clear K7
  have X16 := Lib.hid (X8.out.below b5)
  clear X8
  clear hk1 hk2 HC1 HC2 HN2 HN3 b5
  go_wp2_with fail
  refine (toInsS_any w.heap.size w4 a p cap hs (HN.out.kept K14.out) (by omega)).mono ?_
  rintro e w5 ⟨rfl, o5, b5⟩
  have z17 : w4.heap.size ≤ w5.heap.size := b5.size
  have K18 := Lib.hid (K14.out.trans (b5.mono (by omega)))
  clear K14
  have K19 := Lib.hid (K15.out.trans (b5.mono (by omega)))
  clear K15
  have X20 := Lib.hid (X16.out.below b5)
  clear X16
  have R21 := Lib.hid o5
  have U22 := Lib.hid (under_of o5)
  have S23 := Lib.hid (bsep_new o5 (show w.heap.size < _ by omega))
  clear o5
  clear b5
  have c24 := X20.out.cell 0
  have c25 := X20.out.cell 1
  have c26 := X20.out.cell 2
  simp at c24 c25 c26
  have l27 := X20.out.lt
  go_wp2_with fail
  refine (toLane_any w.heap.size w5 t pc ra rs rc hq (HR.out.kept K18.out) (by omega)).mono ?_
  rintro e w6 ⟨g6, rfl, o5, b5⟩
  clear c24 c25 c26 l27
  have z28 : w5.heap.size ≤ w6.heap.size := b5.size
  have K29 := Lib.hid (K18.out.trans (b5.mono (by omega)))
  clear K18
  have K30 := Lib.hid (K19.out.trans (b5.mono (by omega)))
  clear K19
  have R31 := Lib.hid (R21.out.below b5)
  clear R21
  have X32 := Lib.hid (X20.out.below b5)
  clear X20
  have R33 := Lib.hid o5
  have U34 := Lib.hid (under_of o5)
  have S35 := Lib.hid (sep_new o5 U22.out (by omega))
  have S36 := Lib.hid (bsep_new o5 (show w.heap.size < _ by omega))
  clear o5
  clear b5
  go_upto_region 11 with fail
  obtain ⟨w7, hw37⟩ : ∃ w', w' = w6.alloc (.cells #[.int .i64 t, .int .i64 pc, .slice (some ⟨g6, 0, none⟩) rs.length rs.length] 27) := ⟨_, rfl⟩
  rw [← hw37]
  have b38 : Below w6.heap.size w6 w7 := by rw [hw37]; exact below1 _ _
  have X39 := Lib.hid (show Box 27 w7 w6.heap.size #[.int .i64 t, .int .i64 pc, .slice (some ⟨g6, 0, none⟩) rs.length rs.length] by rw [hw37]; exact Box.new _ _ _)
  have z40 : w6.heap.size < w7.heap.size := X39.out.lt
  clear hw37
  have z41 : w6.heap.size ≤ w7.heap.size := b38.size
  have K42 := Lib.hid (K29.out.trans (b38.mono (by omega)))
  clear K29
  have K43 := Lib.hid (K30.out.trans (b38.mono (by omega)))
  clear K30
  have R44 := Lib.hid (R31.out.below b38)
  clear R31
  have R45 := Lib.hid (R33.out.below b38)
  clear R33
  have X46 := Lib.hid (X32.out.below b38)
  clear X32
  clear b38
  have S47 := Lib.hid (bsep_old (b := w6.heap.size) U22.out (by omega))
  have S48 := Lib.hid (bsep_old (b := w6.heap.size) U34.out (by omega))
  have c49 := X39.out.cell 0
  have c50 := X39.out.cell 1
  have c51 := X39.out.cell 2
  simp at c49 c50 c51
  have l52 := X39.out.lt
  go_wp2_with fail
  refine (pLaneEnded_any _ w7 _ p _ hs2 (R44.out.nums HPG.out (Nat.le_refl _)) (Nat.le_refl _) t pc _ _ rs _ hq2 (R45.out.nums HRG.out (Nat.le_refl _)) (Nat.le_refl _)).mono ?_
  rw [← HV.out]
  rintro e w8 ⟨rfl, b5⟩
  clear c49 c50 c51 l52
  have z53 : w7.heap.size ≤ w8.heap.size := b5.size
  have K54 := Lib.hid (K42.out.trans (b5.mono (by omega)))
  clear K42
  have K55 := Lib.hid (K43.out.trans (b5.mono (by omega)))
  clear K43
  have R56 := Lib.hid (R44.out.below b5)
  clear R44
  have R57 := Lib.hid (R45.out.below b5)
  clear R45
  have X58 := Lib.hid (X46.out.below b5)
  clear X46
  have X59 := Lib.hid (X39.out.below b5)
  clear X39
  clear b5
  go_wp2_with fail
  refine (toInsS_any w.heap.size w8 a p cap hs (HN.out.kept K54.out) (by omega)).mono ?_
  rintro e w11 ⟨rfl, o5, b5⟩
  have z60 : w8.heap.size ≤ w11.heap.size := b5.size
  have K61 := Lib.hid (K54.out.trans (b5.mono (by omega)))
  clear K54
  have K62 := Lib.hid (K55.out.trans (b5.mono (by omega)))
  clear K55
  have R63 := Lib.hid (R56.out.below b5)
  clear R56
  have R64 := Lib.hid (R57.out.below b5)
  clear R57
  have X65 := Lib.hid (X58.out.below b5)
  clear X58
  have X66 := Lib.hid (X59.out.below b5)
  clear X59
  clear b5
  have O11 := Lib.hid o5
  clear o5
  go_wp2_with fail
  refine (eqP_same _ _ _ _ _ _ p w11 hs2 (R63.out.nums HPG.out (Nat.le_refl _)) (O11.out.nums HPG.out (Nat.le_refl _)) (Nat.le_refl _) (Nat.le_refl _)).mono ?_
  rintro e w12 ⟨rfl, b5⟩
  have z67 : w11.heap.size ≤ w12.heap.size := b5.size
  have K68 := Lib.hid (K61.out.trans (b5.mono (by omega)))
  clear K61
  have K69 := Lib.hid (K62.out.trans (b5.mono (by omega)))
  clear K62
  have R70 := Lib.hid (R63.out.below b5)
  clear R63
  have R71 := Lib.hid (R64.out.below b5)
  clear R64
  have X72 := Lib.hid (X65.out.below b5)
  clear X65
  have X73 := Lib.hid (X66.out.below b5)
  clear X66
  clear b5 O11
  have c74 := X73.out.cell 0
  have c75 := X73.out.cell 1
  have c76 := X73.out.cell 2
  simp at c74 c75 c76
  have l77 := X73.out.lt
  have c78 := X72.out.cell 0
  have c79 := X72.out.cell 1
  have c80 := X72.out.cell 2
  simp at c78 c79 c80
  have l81 := X72.out.lt
  go_upto_region 16 with fail
  have HC2 := Lib.hid (fun (W : World) (hW : Kept w12 W) => toLane_any w.heap.size W t pc ra rs rc hq (HR.out.kept (K68.out.trans (Below.mono hW (by omega)))) (by have := hW.size; omega))
  have HN1 := Lib.hid (fun (W : World) (hW : Kept w12 W) => (R71.out.below hW).nums HRG.out (Nat.le_refl _))
  have hk1 : Kept w12 w12 := Below.refl _ _
  have hz0 := hk1.size
  go_region_held3 (fun w' => (w'.cell? ⟨w6.heap.size, 0, none⟩ = some (.int .i64 t) ∧ w'.cell? ⟨w6.heap.size, 1, none⟩ = some (.int .i64 pc) ∧ w'.cell? ⟨w6.heap.size, 2, none⟩ = some (.slice (some ⟨g6, 0, none⟩) rs.length rs.length)) ∧ w'.cell? ⟨w.heap.size, 0, none⟩ = some (.int .i64 t) ∧ w'.cell? ⟨w.heap.size, 1, none⟩ = some (.int .i64 pc) ∧ w'.cell? ⟨w.heap.size, 2, none⟩ = some (.slice ra rs.length rc)) (first | go_keep | ((repeat' apply And.intro) <;> (first | (rw [hb1.cell (by simp; omega)]; simp [*]) | go_keep | (refine Lib.cell?_alloc_some _ ?_; assumption)))) ((first
    | (go_at_call 31; refine (HC2.out _ (by first | with_reducible exact hk1 | with_reducible exact Kept.drew hk1)).mono ?_; rintro e w13 ⟨g13, rfl, o13, hb1⟩; replace hk1 : Kept w12 w13 := (by first | with_reducible exact Kept.call hk1 hb1 | with_reducible exact Kept.call (Kept.drew hk1) hb1); have hz0 := hk1.size; have O13 := Lib.hid o13; clear o13)
    | (go_at_call 24; refine (eqLane_same t pc _ _ _ _ _ _ rs _ hq2 (HN1.out _ (by first | with_reducible exact hk1 | with_reducible exact Kept.drew hk1)) (O13.out.nums HRG.out (Nat.le_refl _)) (Nat.le_refl _) (Nat.le_refl _)).mono ?_; rintro e w14 ⟨rfl, hb1⟩; replace hk1 : Kept w12 w14 := (by first | with_reducible exact Kept.call hk1 hb1 | with_reducible exact Kept.call (Kept.drew hk1) hb1); have hz0 := hk1.size)))
  clear c74 c75 c76 l77 c78 c79 c80 l81
  have b5 : Below w12.heap.size w12 w14 := hk1
  have z82 : w12.heap.size ≤ w14.heap.size := b5.size
  have K83 := Lib.hid (K68.out.trans (b5.mono (by omega)))
  clear K68
  have K84 := Lib.hid (K69.out.trans (b5.mono (by omega)))
  clear K69
  have R85 := Lib.hid (R70.out.below b5)
  clear R70
  have R86 := Lib.hid (R71.out.below b5)
  clear R71
  have X87 := Lib.hid (X72.out.below b5)
  clear X72
  have X88 := Lib.hid (X73.out.below b5)
  clear X73
  clear hk1 hz0 HC2 HN1 O13 b5
  go_wp2_with fail
  go_ret
  exact ⟨rfl, K83.out⟩

end Go.Proofs.Ytimkcgbhkbchfaa
