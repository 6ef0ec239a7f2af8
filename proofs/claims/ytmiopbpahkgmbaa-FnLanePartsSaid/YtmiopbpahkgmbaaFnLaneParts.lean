/- FnLaneParts: a run of a lane can be stopped and continued. -/
import Derived.Test.YtmiopbpahkgmbaaRunP
import Derived.Test.YtmiopbpahkgmbaaDrawLane
import Derived.Test.YtmiopbpahkgmbaaDrawNums
import Derived.Test.YtmiopbpahkgmbaaNumber
import Derived.Test.YtmiopbpahkgmbaaSameI
namespace Go.Proofs.Ytmiopbpahkgmbaa
open Go.RowKit Go

theorem bytes_on {w w' : World} {a : Option Addr} {len : Nat} (h : Bytes w.heap.size w a len) (hb : Below w.heap.size w w') : Bytes w'.heap.size w' a len := fun j hj => by
  obtain ⟨b, off, x, e, hlt, hc, h0, h1⟩ := h j hj
  exact ⟨b, off, x, e, Nat.lt_of_lt_of_le hlt hb.size, by rw [hb.cell (p := ⟨b, off + j, none⟩) hlt]; exact hc, h0, h1⟩
theorem run4 {t k n : Int} {ys : List Int} {W : World} (h : ys.length = 4) : RunSaid t k ys n W = fun e w' => ∃ (a : Option Addr) (c : Nat), e = .returned (.tuple #[.agg #[.int .i64 t, .int .i64 k, .slice a 4 c], .int .i64 n]) ∧ Own W.heap.size w' (.slice a 4 c) ys ∧ Below W.heap.size W w' := by
  unfold RunSaid
  rw [h]

set_option maxRecDepth 100000 in
set_option maxHeartbeats 4000000 in
theorem fnLaneParts_any (a : Option Addr) (len cap : Nat) (zs : List Int) (w : World) (hr : IsRow .u8 w a len cap zs) :
    Calls Try.prog 5 #[.slice a len cap] w fun e w' => e = .returned (.bool true) ∧ Below w.heap.size w w' := by
  have hl := hr.bytes.2
  have HBy := Lib.hid hr.bytes.1
  have HL := Lib.hid hl
  clear hr
  by_cases hbig : 1048576 < len
  · have HD := Lib.hid (show decide (1048576 < (len : Int)) = true by simp; omega)
    clear hl hbig
    go_enter Try.func5, Try.ntmps5
    go_wp2_with fail
    refine (big_any _ _ _ _).mono ?_
    rw [HD.out]
    rintro e w' ⟨rfl, rfl⟩
    go_wp2_with fail
    go_ret
    exact ⟨rfl, Below.refl _ _⟩
  · have HD := Lib.hid (show decide (1048576 < (len : Int)) = false by simp; omega)
    clear hl hbig
    go_enter Try.func5, Try.ntmps5
    go_wp2_with fail
    refine (big_any _ _ _ _).mono ?_
    rw [HD.out]
    rintro e w' ⟨rfl, rfl⟩
    clear HD
    go_wp2_with fail
    refine (drawLane_any _ _ _ _ HL.out HBy.out).mono ?_
    rintro e w1 ⟨a1, c1, p, t, pc, ra, rc, rs, rfl, ⟨hok, hr4, hp8, hloc⟩, o1, o2, b1⟩
    obtain ⟨hp, ht, hpc, _, hrw⟩ := laneOk_iff.1 hok
    have HN1 := Lib.hid (OwnP.nums o1 (progOk_rng hp) (Nat.le_refl _))
    have HR1 := Lib.hid (Own.nums o2 (words_rng hrw) (Nat.le_refl _))
    have hq : quietOk p = true := quiet_iff.2 ⟨hloc, hp⟩
    have KA := Lib.hid b1
    have KB := Lib.hid (Below.refl w1.heap.size w1)
    have s1 : w.heap.size ≤ w1.heap.size := b1.size
    clear o1 o2 b1
    go_upto_region 4 with fail
    obtain ⟨w2, hw1⟩ : ∃ w', w' = w1.alloc (.cells #[.int .i64 t, .int .i64 pc, .slice ra 4 rc] 27) := ⟨_, rfl⟩
    rw [← hw1]
    have b2 : Below w1.heap.size w1 w2 := by rw [hw1]; exact below1 _ _
    have X3 := Lib.hid (show Box 27 w2 w1.heap.size #[.int .i64 t, .int .i64 pc, .slice ra 4 rc] by rw [hw1]; exact Box.new _ _ _)
    have z4 : w1.heap.size < w2.heap.size := X3.out.lt
    clear hw1
    have z5 : w1.heap.size ≤ w2.heap.size := b2.size
    have K6 := Lib.hid (KA.out.trans (b2.mono (by omega)))
    clear KA
    have K7 := Lib.hid (KB.out.trans (b2.mono (by omega)))
    clear KB
    clear b2
    go_wp2_with fail
    refine (places_any _ _ _ _ HL.out (bytes_on HBy.out K6.out)).mono ?_
    rintro e w3 ⟨v3, xs, hxl, hxp, rfl, o3, b3⟩
    obtain ⟨a3, c3, rfl⟩ := o3.form
    obtain ⟨g3, rfl, _, _, hc0⟩ := o3.cell 0 (by omega)
    obtain ⟨g3', eg, _, _, hc1⟩ := o3.cell 1 (by omega)
    cases eg
    have q0 := hxp _ (List.getElem_mem (by omega : 0 < xs.length))
    have q1 := hxp _ (List.getElem_mem (by omega : 1 < xs.length))
    generalize xs[0] = x0 at *
    generalize xs[1] = x1 at *
    obtain ⟨q00, q01⟩ := q0
    obtain ⟨q10, q11⟩ := q1
    obtain ⟨A, hA, hA2⟩ : ∃ A : Nat, x0 % 20 = A ∧ A < 20 := ⟨(x0 % 20).toNat, by omega, by omega⟩
    obtain ⟨B, hB, hB2⟩ : ∃ B : Nat, x1 % 20 = B ∧ B < 20 := ⟨(x1 % 20).toNat, by omega, by omega⟩
    have h0 : (0 : Int) < (xs.length : Int) := by omega
    have h1 : (1 : Int) < (xs.length : Int) := by omega
    have z8 : w2.heap.size ≤ w3.heap.size := b3.size
    have K9 := Lib.hid (K6.out.trans (b3.mono (by omega)))
    clear K6
    have K10 := Lib.hid (K7.out.trans (b3.mono (by omega)))
    clear K7
    have X11 := Lib.hid (X3.out.below b3)
    clear X3
    clear o3 b3 hxp
    have hAB : IntKind.i64.wrap ((A : Int) + (B : Int)) = (A : Int) + (B : Int) := IntWalk.i64_in _ (by omega)
    have hyA : runOk p t pc rs (A : Int) = true := runOk_iff.2 ⟨hq, hok, by omega⟩
    have hyC : runOk p t pc rs ((A + B : Nat) : Int) = true := runOk_iff.2 ⟨hq, hok, by omega⟩
    have hv := run_valid A hok
    have hyB : runOk p t (runS p t A pc rs).1 (runS p t A pc rs).2 (B : Int) = true := runOk_iff.2 ⟨hq, hv, by omega⟩
    have HC1 := fun W h hB B2 ra rc h2 hB2 => pRunLane_any w1.heap.size W a1 p c1 (by omega) h hB t pc B2 ra rs rc (by omega) h2 hB2 ((A + B : Nat) : Int)
    have HC2 := fun W h hB B2 ra rc h2 hB2 => pRunLane_any w1.heap.size W a1 p c1 (by omega) h hB t pc B2 ra rs rc (by omega) h2 hB2 (A : Int)
    have HC3 := fun W h hB B2 ra rc h2 hB2 => pRunLane_any w1.heap.size W a1 p c1 (by omega) h hB t (runS p t A pc rs).1 B2 ra (runS p t A pc rs).2 rc (by rw [run_len]; omega) h2 hB2 (B : Int)
    obtain ⟨e1, e2, e3⟩ := rn_yes hyA
    obtain ⟨e4, e5, e6⟩ := rn_yes hyB
    obtain ⟨e7, e8, e9⟩ := rn_yes hyC
    rw [e1, e2, e3] at HC2
    rw [e4, e5, e6] at HC3
    rw [e7, e8, e9, runS_add, runN_add] at HC1
    have hlA : (runS p t A pc rs).2.length = 4 := by rw [run_len]; exact hr4
    have hlB : (runS p t B (runS p t A pc rs).1 (runS p t A pc rs).2).2.length = 4 := by rw [run_len]; exact hlA
    have HVW := Lib.hid (words_rng (laneOk_iff.1 hv).2.2.2.2)
    have HWW := Lib.hid (words_rng (laneOk_iff.1 (run_valid B hv)).2.2.2.2)
    have hnA := run_le p t A pc rs
    have hnB := run_le p t B (runS p t A pc rs).1 (runS p t A pc rs).2
    clear e1 e2 e3 e4 e5 e6 e7 e8 e9 hyA hyB hyC hv hq hloc hok hp ht hpc hrw
    generalize runN p t B (runS p t A pc rs).1 (runS p t A pc rs).2 = nB at *
    generalize runS p t B (runS p t A pc rs).1 (runS p t A pc rs).2 = sB at *
    generalize runN p t A pc rs = nA at *
    generalize runS p t A pc rs = sA at *
    obtain ⟨kA, yA⟩ := sA
    obtain ⟨kB, yB⟩ := sB
    simp only at HC1 HC2 HC3 hlA hlB HVW HWW
    simp only [run4 hlA] at HC2
    simp only [run4 hlB] at HC1 HC3
    rw [hr4] at HC1 HC2
    rw [hlA] at HC3
    rw [show ((A + B : Nat) : Int) = (A : Int) + (B : Int) by omega, show ((nA + nB : Nat) : Int) = (nA : Int) + (nB : Int) by omega] at HC1
    have hnn : IntKind.i64.wrap ((nA : Int) + (nB : Int)) = (nA : Int) + (nB : Int) := IntWalk.i64_in _ (by omega)
    have hge : (0 : Int) ≤ (nA : Int) + (nB : Int) := by omega
    replace HC1 := Lib.hid HC1
    replace HC2 := Lib.hid HC2
    replace HC3 := Lib.hid HC3
    have HLB := Lib.hid hlB
    clear hlA hlB hnA hnB hxl hr4
    have c12 := X11.out.cell 0
    have c13 := X11.out.cell 1
    have c14 := X11.out.cell 2
    simp at c12 c13 c14
    have l15 := X11.out.lt
    go_wp2_with fail
    refine (HC1.out w3 (HN1.out.kept K10.out) (by omega) _ _ _ (HR1.out.kept K10.out) (by omega)).mono ?_
    rintro e w4 ⟨a4, c4, rfl, o5, b5⟩
    clear c12 c13 c14 l15
    have z16 : w3.heap.size ≤ w4.heap.size := b5.size
    have K17 := Lib.hid (K9.out.trans (b5.mono (by omega)))
    clear K9
    have K18 := Lib.hid (K10.out.trans (b5.mono (by omega)))
    clear K10
    have X19 := Lib.hid (X11.out.below b5)
    clear X11
    have R20 := Lib.hid o5
    have U21 := Lib.hid (under_of o5)
    have S22 := Lib.hid (bsep_new o5 (show w1.heap.size < _ by omega))
    clear o5
    clear b5
    go_upto_region 8 with fail
    obtain ⟨w4b, hw23⟩ : ∃ w', w' = w4.alloc (.cells #[.int .i64 t, .int .i64 kB, .slice a4 4 c4] 27) := ⟨_, rfl⟩
    rw [← hw23]
    have b24 : Below w4.heap.size w4 w4b := by rw [hw23]; exact below1 _ _
    have X25 := Lib.hid (show Box 27 w4b w4.heap.size #[.int .i64 t, .int .i64 kB, .slice a4 4 c4] by rw [hw23]; exact Box.new _ _ _)
    have z26 : w4.heap.size < w4b.heap.size := X25.out.lt
    clear hw23
    have z27 : w4.heap.size ≤ w4b.heap.size := b24.size
    have K28 := Lib.hid (K17.out.trans (b24.mono (by omega)))
    clear K17
    have K29 := Lib.hid (K18.out.trans (b24.mono (by omega)))
    clear K18
    have R30 := Lib.hid (R20.out.below b24)
    clear R20
    have X31 := Lib.hid (X19.out.below b24)
    clear X19
    clear b24
    have S32 := Lib.hid (bsep_old (b := w4.heap.size) U21.out (by omega))
    have c33 := X31.out.cell 0
    have c34 := X31.out.cell 1
    have c35 := X31.out.cell 2
    simp at c33 c34 c35
    have l36 := X31.out.lt
    go_wp2_with fail
    refine (HC2.out w4b (HN1.out.kept K29.out) (by omega) _ _ _ (HR1.out.kept K29.out) (by omega)).mono ?_
    rintro e w5 ⟨a5, c5, rfl, o5, b5⟩
    clear c33 c34 c35 l36
    have z37 : w4b.heap.size ≤ w5.heap.size := b5.size
    have K38 := Lib.hid (K28.out.trans (b5.mono (by omega)))
    clear K28
    have K39 := Lib.hid (K29.out.trans (b5.mono (by omega)))
    clear K29
    have R40 := Lib.hid (R30.out.below b5)
    clear R30
    have X41 := Lib.hid (X31.out.below b5)
    clear X31
    have X42 := Lib.hid (X25.out.below b5)
    clear X25
    have R43 := Lib.hid o5
    have U44 := Lib.hid (under_of o5)
    have S45 := Lib.hid (sep_new o5 U21.out (by omega))
    have S46 := Lib.hid (bsep_new o5 (show w1.heap.size < _ by omega))
    have S47 := Lib.hid (bsep_new o5 (show w4.heap.size < _ by omega))
    clear o5
    clear b5
    go_upto_region 9 with fail
    obtain ⟨w5b, hw48⟩ : ∃ w', w' = w5.alloc (.cells #[.int .i64 t, .int .i64 kA, .slice a5 4 c5] 27) := ⟨_, rfl⟩
    rw [← hw48]
    have b49 : Below w5.heap.size w5 w5b := by rw [hw48]; exact below1 _ _
    have X50 := Lib.hid (show Box 27 w5b w5.heap.size #[.int .i64 t, .int .i64 kA, .slice a5 4 c5] by rw [hw48]; exact Box.new _ _ _)
    have z51 : w5.heap.size < w5b.heap.size := X50.out.lt
    clear hw48
    have z52 : w5.heap.size ≤ w5b.heap.size := b49.size
    have K53 := Lib.hid (K38.out.trans (b49.mono (by omega)))
    clear K38
    have K54 := Lib.hid (K39.out.trans (b49.mono (by omega)))
    clear K39
    have R55 := Lib.hid (R40.out.below b49)
    clear R40
    have R56 := Lib.hid (R43.out.below b49)
    clear R43
    have X57 := Lib.hid (X41.out.below b49)
    clear X41
    have X58 := Lib.hid (X42.out.below b49)
    clear X42
    clear b49
    have S59 := Lib.hid (bsep_old (b := w5.heap.size) U21.out (by omega))
    have S60 := Lib.hid (bsep_old (b := w5.heap.size) U44.out (by omega))
    have c61 := X50.out.cell 0
    have c62 := X50.out.cell 1
    have c63 := X50.out.cell 2
    simp at c61 c62 c63
    have l64 := X50.out.lt
    go_wp2_with fail
    refine (HC3.out w5b (HN1.out.kept K54.out) (by omega) _ _ _ (Own.nums R56.out HVW.out (Nat.le_refl _)) (Nat.le_refl _)).mono ?_
    rintro e w6 ⟨a6, c6, rfl, o5, b5⟩
    clear c61 c62 c63 l64
    have z65 : w5b.heap.size ≤ w6.heap.size := b5.size
    have K66 := Lib.hid (K53.out.trans (b5.mono (by omega)))
    clear K53
    have K67 := Lib.hid (K54.out.trans (b5.mono (by omega)))
    clear K54
    have R68 := Lib.hid (R55.out.below b5)
    clear R55
    have R69 := Lib.hid (R56.out.below b5)
    clear R56
    have X70 := Lib.hid (X57.out.below b5)
    clear X57
    have X71 := Lib.hid (X58.out.below b5)
    clear X58
    have X72 := Lib.hid (X50.out.below b5)
    clear X50
    have R73 := Lib.hid o5
    have U74 := Lib.hid (under_of o5)
    have S75 := Lib.hid (sep_new o5 U21.out (by omega))
    have S76 := Lib.hid (sep_new o5 U44.out (by omega))
    have S77 := Lib.hid (bsep_new o5 (show w1.heap.size < _ by omega))
    have S78 := Lib.hid (bsep_new o5 (show w4.heap.size < _ by omega))
    have S79 := Lib.hid (bsep_new o5 (show w5.heap.size < _ by omega))
    clear o5
    clear b5
    go_upto_region 10 with fail
    obtain ⟨w6b, hw80⟩ : ∃ w', w' = w6.alloc (.cells #[.int .i64 t, .int .i64 kB, .slice a6 4 c6] 27) := ⟨_, rfl⟩
    rw [← hw80]
    have b81 : Below w6.heap.size w6 w6b := by rw [hw80]; exact below1 _ _
    have X82 := Lib.hid (show Box 27 w6b w6.heap.size #[.int .i64 t, .int .i64 kB, .slice a6 4 c6] by rw [hw80]; exact Box.new _ _ _)
    have z83 : w6.heap.size < w6b.heap.size := X82.out.lt
    clear hw80
    have z84 : w6.heap.size ≤ w6b.heap.size := b81.size
    have K85 := Lib.hid (K66.out.trans (b81.mono (by omega)))
    clear K66
    have K86 := Lib.hid (K67.out.trans (b81.mono (by omega)))
    clear K67
    have R87 := Lib.hid (R68.out.below b81)
    clear R68
    have R88 := Lib.hid (R69.out.below b81)
    clear R69
    have R89 := Lib.hid (R73.out.below b81)
    clear R73
    have X90 := Lib.hid (X70.out.below b81)
    clear X70
    have X91 := Lib.hid (X71.out.below b81)
    clear X71
    have X92 := Lib.hid (X72.out.below b81)
    clear X72
    clear b81
    have S93 := Lib.hid (bsep_old (b := w6.heap.size) U21.out (by omega))
    have S94 := Lib.hid (bsep_old (b := w6.heap.size) U44.out (by omega))
    have S95 := Lib.hid (bsep_old (b := w6.heap.size) U74.out (by omega))
    have c96 := X90.out.cell 0
    have c97 := X90.out.cell 1
    have c98 := X90.out.cell 2
    simp at c96 c97 c98
    have l99 := X90.out.lt
    have c100 := X91.out.cell 0
    have c101 := X91.out.cell 1
    have c102 := X91.out.cell 2
    simp at c100 c101 c102
    have l103 := X91.out.lt
    have c104 := X82.out.cell 0
    have c105 := X82.out.cell 1
    have c106 := X82.out.cell 2
    simp at c104 c105 c106
    have l107 := X82.out.lt
    go_wp2_with fail
    refine (same_any _ w6b _ _ yB 4 _ _ HLB.out (by omega) (Own.nums R89.out HWW.out (Nat.le_refl _)) (Own.nums R87.out HWW.out (Nat.le_refl _)) (Nat.le_refl _)).mono ?_
    rintro e w9 ⟨rfl, b5⟩
    have HB9 := Lib.hid (K85.out.trans (b5.mono (by omega)))
    clear b5
    clear c96 c97 c98 l99 c100 c101 c102 l103 c104 c105 c106 l107
    go_wp2_with fail
    go_ret
    exact ⟨rfl, HB9.out⟩

end Go.Proofs.Ytmiopbpahkgmbaa
