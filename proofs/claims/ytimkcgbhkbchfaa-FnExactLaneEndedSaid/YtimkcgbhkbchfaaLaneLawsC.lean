/- Lanes: the exact laws of LaneNew and ApplyIns. -/
import Derived.Test.YtimkcgbhkbchfaaLaneR
import Derived.Test.YtimkcgbhkbchfaaLaneL
import Derived.Test.YtimkcgbhkbchfaaSep
import Derived.Deep.CutRange
namespace Go.Proofs.Ytimkcgbhkbchfaa
open Go.RowKit Go

theorem new_len (t : Int) : (newR t).length ≤ 4 := by
  unfold newR
  split <;> simp
theorem new_rng (t : Int) : ∀ x ∈ newR t, i64R x := by
  intro x hx
  unfold newR at hx
  split at hx
  · simp at hx
    subst hx
    unfold i64R
    omega
  · cases hx
theorem app_len (x : I4) (t : Int) (rs : List Int) : (appR x t rs).length ≤ rs.length := by
  unfold appR
  split
  · rw [applyR_len]; exact Nat.le_refl _
  · simp
theorem app_words {x : I4} {t : Int} {rs : List Int} : (appR x t rs).all isW = true := by
  unfold appR
  split
  · rename_i h
    unfold appOk regsOk at h
    simp only [Bool.and_eq_true, decide_eq_true_eq] at h
    exact applyR_words h.2.1 h.1.2 h.2.2
  · rfl
theorem app_rng {x : I4} {t : Int} {rs : List Int} : ∀ y ∈ appR x t rs, i64R y := fun y hy => isW_rng ((List.all_eq_true.1 app_words) y hy)

set_option maxRecDepth 100000 in
set_option maxHeartbeats 4000000 in
theorem fnExactLaneNew_walk (t : Int) (w : World) : Calls Try.prog 5 #[.int .i64 t] w fun e w' => e = .returned (.bool true) ∧ Below w.heap.size w w' := by
  have h1 := fun W => sLaneNew_any t W
  have h2 := fun W => pLaneNew_any t W
  have hrg := new_rng t
  have hln : (newR t).length ≤ 4 := new_len t
  generalize newR t = ys at *
  generalize newT t = m at *
  replace h1 := Lib.hid h1
  replace h2 := Lib.hid h2
  have HTG := Lib.hid hrg
  have hy2 : ys.length ≤ 10000000 := by omega
  clear hrg hln
  have KA := Lib.hid (Below.refl w.heap.size w)
  go_enter Try.func5, Try.ntmps5
  go_wp2_with fail
  refine (h1.out _).mono ?_
  rintro e w1 ⟨a4, c4, rfl, o5, b5⟩
  have z1 : w.heap.size ≤ w1.heap.size := b5.size
  have K2 := Lib.hid (KA.out.trans (b5.mono (by omega)))
  clear KA
  have R3 := Lib.hid o5
  have U4 := Lib.hid (under_of o5)
  clear o5
  clear b5
  go_upto_region 2 with fail
  obtain ⟨w2, hw5⟩ : ∃ w', w' = w1.alloc (.cells #[.int .i64 m, .int .i64 0, .slice a4 ys.length c4] 27) := ⟨_, rfl⟩
  rw [← hw5]
  have b6 : Below w1.heap.size w1 w2 := by rw [hw5]; exact below1 _ _
  have X7 := Lib.hid (show Box 27 w2 w1.heap.size #[.int .i64 m, .int .i64 0, .slice a4 ys.length c4] by rw [hw5]; exact Box.new _ _ _)
  have z8 : w1.heap.size < w2.heap.size := X7.out.lt
  clear hw5
  have z9 : w1.heap.size ≤ w2.heap.size := b6.size
  have K10 := Lib.hid (K2.out.trans (b6.mono (by omega)))
  clear K2
  have R11 := Lib.hid (R3.out.below b6)
  clear R3
  clear b6
  have S12 := Lib.hid (bsep_old (b := w1.heap.size) U4.out (by omega))
  go_wp2_with fail
  refine (h2.out _).mono ?_
  rintro e w3 ⟨a8, c8, rfl, o5, b5⟩
  have z13 : w2.heap.size ≤ w3.heap.size := b5.size
  have K14 := Lib.hid (K10.out.trans (b5.mono (by omega)))
  clear K10
  have R15 := Lib.hid (R11.out.below b5)
  clear R11
  have X16 := Lib.hid (X7.out.below b5)
  clear X7
  have R17 := Lib.hid o5
  have U18 := Lib.hid (under_of o5)
  have S19 := Lib.hid (sep_new o5 U4.out (by omega))
  have S20 := Lib.hid (bsep_new o5 (show w1.heap.size < _ by omega))
  clear o5
  clear b5
  go_upto_region 3 with fail
  obtain ⟨w4, hw21⟩ : ∃ w', w' = w3.alloc (.cells #[.int .i64 m, .int .i64 0, .slice a8 ys.length c8] 27) := ⟨_, rfl⟩
  rw [← hw21]
  have b22 : Below w3.heap.size w3 w4 := by rw [hw21]; exact below1 _ _
  have X23 := Lib.hid (show Box 27 w4 w3.heap.size #[.int .i64 m, .int .i64 0, .slice a8 ys.length c8] by rw [hw21]; exact Box.new _ _ _)
  have z24 : w3.heap.size < w4.heap.size := X23.out.lt
  clear hw21
  have z25 : w3.heap.size ≤ w4.heap.size := b22.size
  have K26 := Lib.hid (K14.out.trans (b22.mono (by omega)))
  clear K14
  have R27 := Lib.hid (R15.out.below b22)
  clear R15
  have R28 := Lib.hid (R17.out.below b22)
  clear R17
  have X29 := Lib.hid (X16.out.below b22)
  clear X16
  clear b22
  have S30 := Lib.hid (bsep_old (b := w3.heap.size) U4.out (by omega))
  have S31 := Lib.hid (bsep_old (b := w3.heap.size) U18.out (by omega))
  have c32 := X23.out.cell 0
  have c33 := X23.out.cell 1
  have c34 := X23.out.cell 2
  simp at c32 c33 c34
  have l35 := X23.out.lt
  have c36 := X29.out.cell 0
  have c37 := X29.out.cell 1
  have c38 := X29.out.cell 2
  simp at c36 c37 c38
  have l39 := X29.out.lt
  go_wp2_with fail
  refine (eqLane_same m 0 a8 a4 _ _ c8 c4 ys w4 hy2 (R28.out.nums HTG.out (Nat.le_refl _)) (R27.out.nums HTG.out (Nat.le_refl _)) (Nat.le_refl _) (Nat.le_refl _)).mono ?_
  rintro e w5 ⟨rfl, b5⟩
  clear c32 c33 c34 l35 c36 c37 c38 l39
  have z40 : w4.heap.size ≤ w5.heap.size := b5.size
  have K41 := Lib.hid (K26.out.trans (b5.mono (by omega)))
  clear K26
  have R42 := Lib.hid (R27.out.below b5)
  clear R27
  have R43 := Lib.hid (R28.out.below b5)
  clear R28
  have X44 := Lib.hid (X29.out.below b5)
  clear X29
  have X45 := Lib.hid (X23.out.below b5)
  clear X23
  clear b5
  have c46 := X45.out.cell 0
  have c47 := X45.out.cell 1
  have c48 := X45.out.cell 2
  simp at c46 c47 c48
  have l49 := X45.out.lt
  go_wp2_with fail
  refine (markLane_any m 0 _ 1 _ ys w5 (by omega) hy2 R43.out).mono ?_
  rintro e w6 ⟨rfl, o5, g5⟩
  obtain ⟨kq, hkq⟩ : ∃ kq : Nat, kq = 1 + ys.length := ⟨_, rfl⟩
  rw [← hkq]
  have hd4 : decide ((kq : Int) < 0) = false := by simp
  have HKQ := Lib.hid hkq
  clear hkq
  clear c46 c47 c48 l49
  have z50 : w5.heap.size ≤ w6.heap.size := g5.size
  have K51 := Lib.hid (K41.out.trans (mark_below R43.out g5 (by omega) (by omega)))
  clear K41
  have R52 := Lib.hid (R42.out.sep S19.out.symm g5)
  clear R42
  have X53 := Lib.hid (X44.out.sep S20.out g5)
  clear X44
  have X54 := Lib.hid (X45.out.sep S31.out g5)
  clear X45
  clear R43
  have R55 := Lib.hid o5
  clear o5
  clear g5
  have c56 := X54.out.cell 0
  have c57 := X54.out.cell 1
  have c58 := X54.out.cell 2
  simp at c56 c57 c58
  have l59 := X54.out.lt
  go_wp2_with fail
  refine (heldLane_any m 0 _ 1 ys.length _ w6 (by omega) hy2 R55.out).mono ?_
  rintro e w7 ⟨rfl, b5⟩
  rw [← HKQ.out]
  clear c56 c57 c58 l59
  have z60 : w6.heap.size ≤ w7.heap.size := b5.size
  have K61 := Lib.hid (K51.out.trans (b5.mono (by omega)))
  clear K51
  have R62 := Lib.hid (R52.out.below b5)
  clear R52
  have R63 := Lib.hid (R55.out.below b5)
  clear R55
  have X64 := Lib.hid (X53.out.below b5)
  clear X53
  have X65 := Lib.hid (X54.out.below b5)
  clear X54
  clear b5
  go_wp2_with fail
  refine (h2.out _).mono ?_
  rintro e w8 ⟨a9, c9, rfl, o5, b5⟩
  have z66 : w7.heap.size ≤ w8.heap.size := b5.size
  have K67 := Lib.hid (K61.out.trans (b5.mono (by omega)))
  clear K61
  have R68 := Lib.hid (R62.out.below b5)
  clear R62
  have R69 := Lib.hid (R63.out.below b5)
  clear R63
  have X70 := Lib.hid (X64.out.below b5)
  clear X64
  have X71 := Lib.hid (X65.out.below b5)
  clear X65
  have R72 := Lib.hid o5
  have U73 := Lib.hid (under_of o5)
  have S74 := Lib.hid (sep_new o5 U4.out (by omega))
  have S75 := Lib.hid (sep_new o5 U18.out (by omega))
  have S76 := Lib.hid (bsep_new o5 (show w1.heap.size < _ by omega))
  have S77 := Lib.hid (bsep_new o5 (show w3.heap.size < _ by omega))
  clear o5
  clear b5
  go_upto_region 14 with fail
  obtain ⟨w9, hw78⟩ : ∃ w', w' = w8.alloc (.cells #[.int .i64 m, .int .i64 0, .slice a9 ys.length c9] 27) := ⟨_, rfl⟩
  rw [← hw78]
  have b79 : Below w8.heap.size w8 w9 := by rw [hw78]; exact below1 _ _
  have X80 := Lib.hid (show Box 27 w9 w8.heap.size #[.int .i64 m, .int .i64 0, .slice a9 ys.length c9] by rw [hw78]; exact Box.new _ _ _)
  have z81 : w8.heap.size < w9.heap.size := X80.out.lt
  clear hw78
  have z82 : w8.heap.size ≤ w9.heap.size := b79.size
  have K83 := Lib.hid (K67.out.trans (b79.mono (by omega)))
  clear K67
  have R84 := Lib.hid (R68.out.below b79)
  clear R68
  have R85 := Lib.hid (R69.out.below b79)
  clear R69
  have R86 := Lib.hid (R72.out.below b79)
  clear R72
  have X87 := Lib.hid (X70.out.below b79)
  clear X70
  have X88 := Lib.hid (X71.out.below b79)
  clear X71
  clear b79
  have S89 := Lib.hid (bsep_old (b := w8.heap.size) U4.out (by omega))
  have S90 := Lib.hid (bsep_old (b := w8.heap.size) U18.out (by omega))
  have S91 := Lib.hid (bsep_old (b := w8.heap.size) U73.out (by omega))
  have c92 := X80.out.cell 0
  have c93 := X80.out.cell 1
  have c94 := X80.out.cell 2
  simp at c92 c93 c94
  have l95 := X80.out.lt
  have c96 := X87.out.cell 0
  have c97 := X87.out.cell 1
  have c98 := X87.out.cell 2
  simp at c96 c97 c98
  have l99 := X87.out.lt
  go_wp2_with fail
  refine (eqLane_same m 0 a9 a4 _ _ c9 c4 ys w9 hy2 (R86.out.nums HTG.out (Nat.le_refl _)) (R84.out.nums HTG.out (Nat.le_refl _)) (Nat.le_refl _) (Nat.le_refl _)).mono ?_
  rintro e w10 ⟨rfl, b5⟩
  clear c92 c93 c94 l95 c96 c97 c98 l99
  have z100 : w9.heap.size ≤ w10.heap.size := b5.size
  have K101 := Lib.hid (K83.out.trans (b5.mono (by omega)))
  clear K83
  have R102 := Lib.hid (R84.out.below b5)
  clear R84
  have R103 := Lib.hid (R85.out.below b5)
  clear R85
  have R104 := Lib.hid (R86.out.below b5)
  clear R86
  have X105 := Lib.hid (X87.out.below b5)
  clear X87
  have X106 := Lib.hid (X88.out.below b5)
  clear X88
  have X107 := Lib.hid (X80.out.below b5)
  clear X80
  clear b5
  have c108 := X106.out.cell 0
  have c109 := X106.out.cell 1
  have c110 := X106.out.cell 2
  simp at c108 c109 c110
  have l111 := X106.out.lt
  go_wp2_with fail
  refine (heldLane_any m 0 _ 1 ys.length _ w10 (by omega) hy2 R103.out).mono ?_
  rintro e w11 ⟨rfl, b5⟩
  rw [← HKQ.out]
  clear c108 c109 c110 l111
  have z112 : w10.heap.size ≤ w11.heap.size := b5.size
  have K113 := Lib.hid (K101.out.trans (b5.mono (by omega)))
  clear K101
  have R114 := Lib.hid (R102.out.below b5)
  clear R102
  have R115 := Lib.hid (R103.out.below b5)
  clear R103
  have R116 := Lib.hid (R104.out.below b5)
  clear R104
  have X117 := Lib.hid (X105.out.below b5)
  clear X105
  have X118 := Lib.hid (X106.out.below b5)
  clear X106
  have X119 := Lib.hid (X107.out.below b5)
  clear X107
  clear b5
  go_wp2_with fail
  go_ret
  exact ⟨rfl, K113.out⟩

set_option maxRecDepth 100000 in
set_option maxHeartbeats 4000000 in
theorem fnExactApplyIns_walk (o x b c t : Int) (ra : Option Addr) (n2 rc : Nat) (zs : List Int) (w : World) (hr : IsRow .i64 w ra n2 rc zs) :
    Calls Try.prog 9 #[.agg #[.int .i64 o, .int .i64 x, .int .i64 b, .int .i64 c], .int .i64 t, .slice ra n2 rc] w fun e w' => e = .returned (.bool true) ∧ Below w.heap.size w w' := by
  obtain ⟨rs, rfl, hm2, hn2⟩ := hr.nums
  clear hr zs
  have hm2' : rs.length ≤ 9223372036854775807 := by unfold maxLen at hm2; omega
  have HR := Lib.hid hn2
  clear hn2 hm2
  by_cases hbig : 1048576 < rs.length
  · have hd : decide ((1048576 : Int) < (rs.length : Int)) = true := by simp; omega
    go_enter Try.func9, Try.ntmps9
    go_wp2_with fail
    go_ret
    exact ⟨rfl, below1 _ _⟩
  have hd : decide ((1048576 : Int) < (rs.length : Int)) = false := by simp; omega
  have hq : rs.length ≤ 1048576 := by omega
  have hq2 : rs.length ≤ 10000000 := by omega
  clear hbig
  have HRG := Lib.hid HR.out.1
  have hrg := app_rng (x := ⟨o, x, b, c⟩) (t := t) (rs := rs)
  have hyl := app_len ⟨o, x, b, c⟩ t rs
  obtain ⟨ys, hys⟩ : ∃ ys, ys = appR ⟨o, x, b, c⟩ t rs := ⟨_, rfl⟩
  rw [← hys] at hrg hyl
  have HTG := Lib.hid hrg
  have HYS := Lib.hid hys
  have hy2 : ys.length ≤ 10000000 := by omega
  clear hys hrg hyl
  obtain ⟨wb, hwb⟩ : ∃ wb, wb = w.alloc (.cells #[.int .i64 o, .int .i64 x, .int .i64 b, .int .i64 c] 55) := ⟨_, rfl⟩
  have bwb : Below w.heap.size w wb := by rw [hwb]; exact below1 _ _
  have XA := Lib.hid (show Box 55 wb w.heap.size #[.int .i64 o, .int .i64 x, .int .i64 b, .int .i64 c] by rw [hwb]; exact Box.new _ _ _)
  have zb : w.heap.size < wb.heap.size := XA.out.lt
  have KA := Lib.hid bwb
  clear bwb
  go_enter Try.func9, Try.ntmps9
  go_upto_region 1 with fail
  rw [← hwb]
  clear hwb
  have c1 := XA.out.cell 0
  have c2 := XA.out.cell 1
  have c3 := XA.out.cell 2
  have c4 := XA.out.cell 3
  simp at c1 c2 c3 c4
  have l5 := XA.out.lt
  go_wp2_with fail
  refine (toIns_any o x b c _).mono ?_
  rintro e w1 ⟨rfl, b5⟩
  clear c1 c2 c3 c4 l5
  have z6 : wb.heap.size ≤ w1.heap.size := b5.size
  have K7 := Lib.hid (KA.out.trans (b5.mono (by omega)))
  clear KA
  have X8 := Lib.hid (XA.out.below b5)
  clear XA
  clear b5
  go_wp2_with fail
  refine (toIntS_any w.heap.size w1 ra rs rc hq (HR.out.kept K7.out) (by omega)).mono ?_
  rintro e w2 ⟨rfl, o5, b5⟩
  have z9 : w1.heap.size ≤ w2.heap.size := b5.size
  have K10 := Lib.hid (K7.out.trans (b5.mono (by omega)))
  clear K7
  have X11 := Lib.hid (X8.out.below b5)
  clear X8
  have R12 := Lib.hid o5
  have U13 := Lib.hid (under_of o5)
  have S14 := Lib.hid (bsep_new o5 (show w.heap.size < _ by omega))
  clear o5
  clear b5
  go_wp2_with fail
  refine (sApplyIns_any _ w2 ⟨o, x, b, c⟩ t _ rs _ hq2 (R12.out.nums HRG.out (Nat.le_refl _)) (Nat.le_refl _)).mono ?_
  rw [← HYS.out]
  rintro e w3 ⟨vw3, rfl, o5, b5⟩
  obtain ⟨a4, c4, rfl⟩ := o5.form
  have z15 : w2.heap.size ≤ w3.heap.size := b5.size
  have K16 := Lib.hid (K10.out.trans (b5.mono (by omega)))
  clear K10
  have R17 := Lib.hid (R12.out.below b5)
  clear R12
  have X18 := Lib.hid (X11.out.below b5)
  clear X11
  have R19 := Lib.hid o5
  have U20 := Lib.hid (under_of o5)
  have S21 := Lib.hid (sep_new o5 U13.out (by omega))
  have S22 := Lib.hid (bsep_new o5 (show w.heap.size < _ by omega))
  clear o5
  clear b5
  go_wp2_with fail
  refine (toIntS_any w.heap.size w3 ra rs rc hq (HR.out.kept K16.out) (by omega)).mono ?_
  rintro e w4 ⟨rfl, o5, b5⟩
  have z23 : w3.heap.size ≤ w4.heap.size := b5.size
  have K24 := Lib.hid (K16.out.trans (b5.mono (by omega)))
  clear K16
  have R25 := Lib.hid (R17.out.below b5)
  clear R17
  have R26 := Lib.hid (R19.out.below b5)
  clear R19
  have X27 := Lib.hid (X18.out.below b5)
  clear X18
  have R28 := Lib.hid o5
  have U29 := Lib.hid (under_of o5)
  have S30 := Lib.hid (sep_new o5 U13.out (by omega))
  have S31 := Lib.hid (sep_new o5 U20.out (by omega))
  have S32 := Lib.hid (bsep_new o5 (show w.heap.size < _ by omega))
  clear o5
  clear b5
  have c33 := X27.out.cell 0
  have c34 := X27.out.cell 1
  have c35 := X27.out.cell 2
  have c36 := X27.out.cell 3
  simp at c33 c34 c35 c36
  have l37 := X27.out.lt
  go_wp2_with fail
  refine (toIns_any o x b c _).mono ?_
  rintro e w5 ⟨rfl, b5⟩
  clear c33 c34 c35 c36 l37
  have z38 : w4.heap.size ≤ w5.heap.size := b5.size
  have K39 := Lib.hid (K24.out.trans (b5.mono (by omega)))
  clear K24
  have R40 := Lib.hid (R25.out.below b5)
  clear R25
  have R41 := Lib.hid (R26.out.below b5)
  clear R26
  have R42 := Lib.hid (R28.out.below b5)
  clear R28
  have X43 := Lib.hid (X27.out.below b5)
  clear X27
  clear b5
  go_wp2_with fail
  refine (pApplyIns_any _ w5 ⟨o, x, b, c⟩ t _ rs _ hq2 (R42.out.nums HRG.out (Nat.le_refl _)) (Nat.le_refl _)).mono ?_
  rw [← HYS.out]
  rintro e w6 ⟨vw6, rfl, o5, b5⟩
  obtain ⟨a8, c8, rfl⟩ := o5.form
  have z44 : w5.heap.size ≤ w6.heap.size := b5.size
  have K45 := Lib.hid (K39.out.trans (b5.mono (by omega)))
  clear K39
  have R46 := Lib.hid (R40.out.below b5)
  clear R40
  have R47 := Lib.hid (R41.out.below b5)
  clear R41
  have R48 := Lib.hid (R42.out.below b5)
  clear R42
  have X49 := Lib.hid (X43.out.below b5)
  clear X43
  have R50 := Lib.hid o5
  have U51 := Lib.hid (under_of o5)
  have S52 := Lib.hid (sep_new o5 U13.out (by omega))
  have S53 := Lib.hid (sep_new o5 U20.out (by omega))
  have S54 := Lib.hid (sep_new o5 U29.out (by omega))
  have S55 := Lib.hid (bsep_new o5 (show w.heap.size < _ by omega))
  clear o5
  clear b5
  go_wp2_with fail
  refine (eqI_same _ _ _ _ _ _ ys w6 hy2 (R50.out.nums HTG.out (Nat.le_refl _)) (R47.out.nums HTG.out (Nat.le_refl _))).mono ?_
  rintro e w' ⟨rfl, md, rfl⟩
  have b5 := below_drewN w6.heap.size w6 md
  generalize w6.drewN md = w7 at *
  have z56 : w6.heap.size ≤ w7.heap.size := b5.size
  have K57 := Lib.hid (K45.out.trans (b5.mono (by omega)))
  clear K45
  have R58 := Lib.hid (R46.out.below b5)
  clear R46
  have R59 := Lib.hid (R47.out.below b5)
  clear R47
  have R60 := Lib.hid (R48.out.below b5)
  clear R48
  have R61 := Lib.hid (R50.out.below b5)
  clear R50
  have X62 := Lib.hid (X49.out.below b5)
  clear X49
  clear b5
  go_wp2_with fail
  refine (toIntS_any w.heap.size w7 ra rs rc hq (HR.out.kept K57.out) (by omega)).mono ?_
  rintro e w8 ⟨rfl, o5, b5⟩
  have z63 : w7.heap.size ≤ w8.heap.size := b5.size
  have K64 := Lib.hid (K57.out.trans (b5.mono (by omega)))
  clear K57
  have R65 := Lib.hid (R58.out.below b5)
  clear R58
  have R66 := Lib.hid (R59.out.below b5)
  clear R59
  have R67 := Lib.hid (R60.out.below b5)
  clear R60
  have R68 := Lib.hid (R61.out.below b5)
  clear R61
  have X69 := Lib.hid (X62.out.below b5)
  clear X62
  have R70 := Lib.hid o5
  have U71 := Lib.hid (under_of o5)
  have S72 := Lib.hid (sep_new o5 U13.out (by omega))
  have S73 := Lib.hid (sep_new o5 U20.out (by omega))
  have S74 := Lib.hid (sep_new o5 U29.out (by omega))
  have S75 := Lib.hid (sep_new o5 U51.out (by omega))
  have S76 := Lib.hid (bsep_new o5 (show w.heap.size < _ by omega))
  clear o5
  clear b5
  go_wp2_with fail
  refine (eqI_same _ _ _ _ _ _ rs w8 hq2 (R67.out.nums HRG.out (Nat.le_refl _)) (R70.out.nums HRG.out (Nat.le_refl _))).mono ?_
  rintro e w' ⟨rfl, md, rfl⟩
  have b5 := below_drewN w8.heap.size w8 md
  generalize w8.drewN md = w9 at *
  have z77 : w8.heap.size ≤ w9.heap.size := b5.size
  have K78 := Lib.hid (K64.out.trans (b5.mono (by omega)))
  clear K64
  have R79 := Lib.hid (R65.out.below b5)
  clear R65
  have R80 := Lib.hid (R66.out.below b5)
  clear R66
  have R81 := Lib.hid (R67.out.below b5)
  clear R67
  have R82 := Lib.hid (R68.out.below b5)
  clear R68
  have R83 := Lib.hid (R70.out.below b5)
  clear R70
  have X84 := Lib.hid (X69.out.below b5)
  clear X69
  clear b5
  go_wp2_with fail
  refine (markI_any _ 1 _ rs w9 (by omega) hq2 R81.out).mono ?_
  rintro e w10 ⟨rfl, o5, g5⟩
  obtain ⟨kk, hkk⟩ : ∃ kk : Nat, kk = 1 + rs.length := ⟨_, rfl⟩
  rw [← hkk]
  have hd3 : decide ((kk : Int) < 0) = false := by simp
  clear hkk
  have z85 : w9.heap.size ≤ w10.heap.size := g5.size
  have K86 := Lib.hid (K78.out.trans (mark_below R81.out g5 (by omega) (by omega)))
  clear K78
  have R87 := Lib.hid (R79.out.sep S30.out.symm g5)
  clear R79
  have R88 := Lib.hid (R80.out.sep S31.out.symm g5)
  clear R80
  have R89 := Lib.hid (R82.out.sep S54.out g5)
  clear R82
  have R90 := Lib.hid (R83.out.sep S74.out g5)
  clear R83
  have X91 := Lib.hid (X84.out.sep S32.out g5)
  clear X84
  clear R81
  have R92 := Lib.hid o5
  clear o5
  clear g5
  go_wp2_with fail
  refine (eqI_same _ _ _ _ _ _ ys w10 hy2 (R89.out.nums HTG.out (Nat.le_refl _)) (R88.out.nums HTG.out (Nat.le_refl _))).mono ?_
  rintro e w' ⟨rfl, md, rfl⟩
  have b5 := below_drewN w10.heap.size w10 md
  generalize w10.drewN md = w11 at *
  have z93 : w10.heap.size ≤ w11.heap.size := b5.size
  have K94 := Lib.hid (K86.out.trans (b5.mono (by omega)))
  clear K86
  have R95 := Lib.hid (R87.out.below b5)
  clear R87
  have R96 := Lib.hid (R88.out.below b5)
  clear R88
  have R97 := Lib.hid (R92.out.below b5)
  clear R92
  have R98 := Lib.hid (R89.out.below b5)
  clear R89
  have R99 := Lib.hid (R90.out.below b5)
  clear R90
  have X100 := Lib.hid (X91.out.below b5)
  clear X91
  clear b5
  go_wp2_with fail
  refine (markI_any _ 1 _ ys w11 (by omega) hy2 R98.out).mono ?_
  rintro e w12 ⟨rfl, o5, g5⟩
  obtain ⟨kq, hkq⟩ : ∃ kq : Nat, kq = 1 + ys.length := ⟨_, rfl⟩
  rw [← hkq]
  have hd4 : decide ((kq : Int) < 0) = false := by simp
  have HKQ := Lib.hid hkq
  clear hkq
  have z101 : w11.heap.size ≤ w12.heap.size := g5.size
  have K102 := Lib.hid (K94.out.trans (mark_below R98.out g5 (by omega) (by omega)))
  clear K94
  have R103 := Lib.hid (R95.out.sep S52.out.symm g5)
  clear R95
  have R104 := Lib.hid (R96.out.sep S53.out.symm g5)
  clear R96
  have R105 := Lib.hid (R97.out.sep S54.out.symm g5)
  clear R97
  have R106 := Lib.hid (R99.out.sep S75.out g5)
  clear R99
  have X107 := Lib.hid (X100.out.sep S55.out g5)
  clear X100
  clear R98
  have R108 := Lib.hid o5
  clear o5
  clear g5
  go_wp2_with fail
  refine (heldI_any _ 1 ys.length _ w12 (by omega) hy2 R108.out).mono ?_
  rintro e w' ⟨rfl, md, rfl⟩
  rw [← HKQ.out]
  have b5 := below_drewN w12.heap.size w12 md
  generalize w12.drewN md = w13 at *
  have z109 : w12.heap.size ≤ w13.heap.size := b5.size
  have K110 := Lib.hid (K102.out.trans (b5.mono (by omega)))
  clear K102
  have R111 := Lib.hid (R103.out.below b5)
  clear R103
  have R112 := Lib.hid (R104.out.below b5)
  clear R104
  have R113 := Lib.hid (R105.out.below b5)
  clear R105
  have R114 := Lib.hid (R108.out.below b5)
  clear R108
  have R115 := Lib.hid (R106.out.below b5)
  clear R106
  have X116 := Lib.hid (X107.out.below b5)
  clear X107
  clear b5
  have c117 := X116.out.cell 0
  have c118 := X116.out.cell 1
  have c119 := X116.out.cell 2
  have c120 := X116.out.cell 3
  simp at c117 c118 c119 c120
  have l121 := X116.out.lt
  go_wp2_with fail
  refine (toIns_any o x b c _).mono ?_
  rintro e w14 ⟨rfl, b5⟩
  clear c117 c118 c119 c120 l121
  have z122 : w13.heap.size ≤ w14.heap.size := b5.size
  have K123 := Lib.hid (K110.out.trans (b5.mono (by omega)))
  clear K110
  have R124 := Lib.hid (R111.out.below b5)
  clear R111
  have R125 := Lib.hid (R112.out.below b5)
  clear R112
  have R126 := Lib.hid (R113.out.below b5)
  clear R113
  have R127 := Lib.hid (R114.out.below b5)
  clear R114
  have R128 := Lib.hid (R115.out.below b5)
  clear R115
  have X129 := Lib.hid (X116.out.below b5)
  clear X116
  clear b5
  go_wp2_with fail
  refine (toIntS_any w.heap.size w14 ra rs rc hq (HR.out.kept K123.out) (by omega)).mono ?_
  rintro e w15 ⟨rfl, o5, b5⟩
  have z130 : w14.heap.size ≤ w15.heap.size := b5.size
  have K131 := Lib.hid (K123.out.trans (b5.mono (by omega)))
  clear K123
  have R132 := Lib.hid (R124.out.below b5)
  clear R124
  have R133 := Lib.hid (R125.out.below b5)
  clear R125
  have R134 := Lib.hid (R126.out.below b5)
  clear R126
  have R135 := Lib.hid (R127.out.below b5)
  clear R127
  have R136 := Lib.hid (R128.out.below b5)
  clear R128
  have X137 := Lib.hid (X129.out.below b5)
  clear X129
  have R138 := Lib.hid o5
  have U139 := Lib.hid (under_of o5)
  have S140 := Lib.hid (sep_new o5 U13.out (by omega))
  have S141 := Lib.hid (sep_new o5 U20.out (by omega))
  have S142 := Lib.hid (sep_new o5 U29.out (by omega))
  have S143 := Lib.hid (sep_new o5 U51.out (by omega))
  have S144 := Lib.hid (sep_new o5 U71.out (by omega))
  have S145 := Lib.hid (bsep_new o5 (show w.heap.size < _ by omega))
  clear o5
  clear b5
  go_wp2_with fail
  refine (pApplyIns_any _ w15 ⟨o, x, b, c⟩ t _ rs _ hq2 (R138.out.nums HRG.out (Nat.le_refl _)) (Nat.le_refl _)).mono ?_
  rw [← HYS.out]
  rintro e w16 ⟨vw16, rfl, o5, b5⟩
  obtain ⟨a9, c9, rfl⟩ := o5.form
  have z146 : w15.heap.size ≤ w16.heap.size := b5.size
  have K147 := Lib.hid (K131.out.trans (b5.mono (by omega)))
  clear K131
  have R148 := Lib.hid (R132.out.below b5)
  clear R132
  have R149 := Lib.hid (R133.out.below b5)
  clear R133
  have R150 := Lib.hid (R134.out.below b5)
  clear R134
  have R151 := Lib.hid (R135.out.below b5)
  clear R135
  have R152 := Lib.hid (R136.out.below b5)
  clear R136
  have R153 := Lib.hid (R138.out.below b5)
  clear R138
  have X154 := Lib.hid (X137.out.below b5)
  clear X137
  have R155 := Lib.hid o5
  have U156 := Lib.hid (under_of o5)
  have S157 := Lib.hid (sep_new o5 U13.out (by omega))
  have S158 := Lib.hid (sep_new o5 U20.out (by omega))
  have S159 := Lib.hid (sep_new o5 U29.out (by omega))
  have S160 := Lib.hid (sep_new o5 U51.out (by omega))
  have S161 := Lib.hid (sep_new o5 U71.out (by omega))
  have S162 := Lib.hid (sep_new o5 U139.out (by omega))
  have S163 := Lib.hid (bsep_new o5 (show w.heap.size < _ by omega))
  clear o5
  clear b5
  go_wp2_with fail
  refine (eqI_same _ _ _ _ _ _ ys w16 hy2 (R155.out.nums HTG.out (Nat.le_refl _)) (R149.out.nums HTG.out (Nat.le_refl _))).mono ?_
  rintro e w' ⟨rfl, md, rfl⟩
  have b5 := below_drewN w16.heap.size w16 md
  generalize w16.drewN md = w17 at *
  have z164 : w16.heap.size ≤ w17.heap.size := b5.size
  have K165 := Lib.hid (K147.out.trans (b5.mono (by omega)))
  clear K147
  have R166 := Lib.hid (R148.out.below b5)
  clear R148
  have R167 := Lib.hid (R149.out.below b5)
  clear R149
  have R168 := Lib.hid (R150.out.below b5)
  clear R150
  have R169 := Lib.hid (R151.out.below b5)
  clear R151
  have R170 := Lib.hid (R152.out.below b5)
  clear R152
  have R171 := Lib.hid (R153.out.below b5)
  clear R153
  have R172 := Lib.hid (R155.out.below b5)
  clear R155
  have X173 := Lib.hid (X154.out.below b5)
  clear X154
  clear b5
  go_wp2_with fail
  refine (heldI_any _ 1 ys.length _ w17 (by omega) hy2 R169.out).mono ?_
  rintro e w' ⟨rfl, md, rfl⟩
  rw [← HKQ.out]
  have b5 := below_drewN w17.heap.size w17 md
  generalize w17.drewN md = w18 at *
  have z174 : w17.heap.size ≤ w18.heap.size := b5.size
  have K175 := Lib.hid (K165.out.trans (b5.mono (by omega)))
  clear K165
  have R176 := Lib.hid (R166.out.below b5)
  clear R166
  have R177 := Lib.hid (R167.out.below b5)
  clear R167
  have R178 := Lib.hid (R168.out.below b5)
  clear R168
  have R179 := Lib.hid (R169.out.below b5)
  clear R169
  have R180 := Lib.hid (R170.out.below b5)
  clear R170
  have R181 := Lib.hid (R171.out.below b5)
  clear R171
  have R182 := Lib.hid (R172.out.below b5)
  clear R172
  have X183 := Lib.hid (X173.out.below b5)
  clear X173
  clear b5
  go_wp2_with fail
  go_ret
  exact ⟨rfl, K175.out⟩

end Go.Proofs.Ytimkcgbhkbchfaa
