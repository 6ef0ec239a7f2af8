/- FnEnds: programs without circles end, within as many steps as they have instructions. -/
import Derived.Test.YtmiopbpahkgmbaaAlone
import Derived.Test.YtmiopbpahkgmbaaRunEnds
import Derived.Test.YtmiopbpahkgmbaaEndsP
import Derived.Test.YtmiopbpahkgmbaaWild
import Derived.Test.YtmiopbpahkgmbaaDrawNums
import Derived.Test.YtmiopbpahkgmbaaNumber
namespace Go.Proofs.Ytmiopbpahkgmbaa
open Go.RowKit Go

theorem bytes_on {w w' : World} {a : Option Addr} {len : Nat} (h : Bytes w.heap.size w a len) (hb : Below w.heap.size w w') : Bytes w'.heap.size w' a len := fun j hj => by
  obtain ⟨b, off, x, e, hlt, hc, h0, h1⟩ := h j hj
  exact ⟨b, off, x, e, Nat.lt_of_lt_of_le hlt hb.size, by rw [hb.cell (p := ⟨b, off + j, none⟩) hlt]; exact hc, h0, h1⟩
/-- A drawn program, every instruction of it local. -/
def DrawnQ (w : World) (m : Nat) (e : Ending) (w' : World) : Prop :=
  ∃ (a : Option Addr) (cap : Nat) (p : List I4), e = .returned (.slice a p.length cap) ∧ quietOk p = true ∧ p.length ≤ m ∧ OwnP w.heap.size w' (.slice a p.length cap) p.length (flat p) ∧ Below w.heap.size w w'
theorem drawWildQ_any (w : World) (a : Option Addr) (len cap : Nat) (hl : len ≤ maxLen) (hb : Bytes w.heap.size w a len) : Calls Try.prog 26 #[.slice a len cap] w (DrawnQ w 8) := by
  have h1 := Lib.hid (new_any w a len cap hl hb)
  clear hl hb
  go_enter Try.func26, Try.ntmps26
  go_wp2_with fail
  refine h1.out.mono ?_
  rintro e w1 ⟨B, rfl, hc, b1⟩
  go_wp2_with fail
  refine (wild_any w.heap.size B w w1 hc b1).mono ?_
  rintro e w2 ⟨v, p, rfl, hp, h8, hc2, ho, hb2, hloc⟩
  obtain ⟨a2, cap2, rfl⟩ := OwnP.form ho
  have HO := Lib.hid (OwnP.base ho (show w.heap.size ≤ B + 1 by have := hc.1; omega))
  have HQ := Lib.hid (quiet_iff.2 ⟨hloc, hp⟩)
  clear ho hloc hp
  go_wp2_with fail
  go_ret
  exact ⟨a2, cap2, p, rfl, HQ.out, h8, HO.out, hb2⟩

set_option maxRecDepth 100000 in
set_option maxHeartbeats 4000000 in
theorem fnEnds_any (a : Option Addr) (len cap : Nat) (zs : List Int) (w : World) (hr : IsRow .u8 w a len cap zs) :
    Calls Try.prog 6 #[.slice a len cap] w fun e w' => e = .returned (.bool true) ∧ Below w.heap.size w w' := by
  have hl := hr.bytes.2
  have HBy := Lib.hid hr.bytes.1
  have HL := Lib.hid hl
  clear hr
  by_cases hbig : 1048576 < len
  · have HD := Lib.hid (show decide (1048576 < (len : Int)) = true by simp; omega)
    clear hl hbig
    go_enter Try.func6, Try.ntmps6
    go_wp2_with fail
    refine (big_any _ _ _ _).mono ?_
    rw [HD.out]
    rintro e w' ⟨rfl, rfl⟩
    go_wp2_with fail
    go_ret
    exact ⟨rfl, Below.refl _ _⟩
  · have HD := Lib.hid (show decide (1048576 < (len : Int)) = false by simp; omega)
    clear hl hbig
    go_enter Try.func6, Try.ntmps6
    go_wp2_with fail
    refine (big_any _ _ _ _).mono ?_
    rw [HD.out]
    rintro e w' ⟨rfl, rfl⟩
    clear HD
    go_wp2_with fail
    refine (drawWildQ_any _ _ _ _ HL.out HBy.out).mono ?_
    rintro e w1 ⟨a1, c1, p, rfl, hq, hp8, o1, b1⟩
    have hp := (quiet_iff.1 hq).2
    have HN1 := Lib.hid (o1.nums (progOk_rng hp) (Nat.le_refl _))
    have KA := Lib.hid b1
    have KB := Lib.hid (Below.refl w1.heap.size w1)
    have s1 : w.heap.size ≤ w1.heap.size := b1.size
    obtain ⟨R, hR⟩ := exists_all p
    clear o1 b1
    go_wp2_with fail
    refine (places_any _ _ _ _ HL.out (bytes_on HBy.out KA.out)).mono ?_
    rintro e w3 ⟨v3, xs, hxl, hxp, rfl, o3, b3⟩
    obtain ⟨a3, c3, rfl⟩ := o3.form
    obtain ⟨g3, rfl, _, _, hc0⟩ := o3.cell 0 (by omega)
    have q0 := hxp _ (List.getElem_mem (by omega : 0 < xs.length))
    generalize xs[0] = x0 at *
    obtain ⟨q00, q01⟩ := q0
    obtain ⟨T, hT, hT2⟩ : ∃ T : Nat, x0 % 24 = T ∧ T < 24 := ⟨(x0 % 24).toNat, by omega, by omega⟩
    have h0 : (0 : Int) < (xs.length : Int) := by omega
    have z1 : w1.heap.size ≤ w3.heap.size := b3.size
    have K2 := Lib.hid (KA.out.trans (b3.mono (by omega)))
    clear KA
    have K3 := Lib.hid (KB.out.trans (b3.mono (by omega)))
    clear KB
    clear o3 b3 hxp
    have HSA := fun W h hB => pStepsAlone_any w1.heap.size W a1 p c1 (by omega) h hB (T : Int)
    have HRA := fun W h hB => pRunAlone_any w1.heap.size W a1 p c1 (by omega) h hB (T : Int)
    have HEN := fun W h hB => pEnds_any w1.heap.size W a1 p R hR c1 (by omega) h hB
    have HLE := fun W h hB B2 ra rc h2 hB2 => pLaneEnded_any w1.heap.size W a1 p c1 (by omega) h hB (T : Int) (p.length : Int) B2 ra (alR p (T : Int)) rc (by have := al_len p (T : Int); omega) h2 hB2
    have hend : endsQ p R = true → aloneOk p (T : Int) = true ∧ alN p (T : Int) ≤ (p.length : Int) := fun he => ends_alone hR hq he (by omega)
    have hways := alone_ways p (T : Int)
    have HTG := Lib.hid (al_rng p (T : Int))
    rcases hways with ⟨hA, _, _, _, _, hn0, hn1, hok⟩ | ⟨hA, _⟩
    · rw [(al_yes hA).1, (al_yes hA).2, hA] at HRA
      have hen : endedQ p (T : Int) (p.length : Int) (alR p (T : Int)) = true := by unfold endedQ; rw [hok, decide_eq_true rfl]; rfl
      rw [hen] at HLE
      replace hend := fun he => (hend he).2
      have HEND := Lib.hid hend
      generalize alR p (T : Int) = ys at *
      generalize alN p (T : Int) = N at *
      replace HSA := Lib.hid HSA
      replace HLE := Lib.hid HLE
      replace HRA := Lib.hid HRA
      replace HEN := Lib.hid HEN
      clear hA hok hen hend hR hp hq
      go_wp2_with fail
      refine (HSA.out w3 (HN1.out.kept K3.out) (by omega)).mono ?_
      rintro e w4 ⟨rfl, b5⟩
      have z4 : w3.heap.size ≤ w4.heap.size := b5.size
      have K5 := Lib.hid (K2.out.trans (b5.mono (by omega)))
      clear K2
      have K6 := Lib.hid (K3.out.trans (b5.mono (by omega)))
      clear K3
      clear b5
      go_wp2_with fail
      refine (HRA.out w4 (HN1.out.kept K6.out) (by omega)).mono ?_
      rintro e w5 ⟨a5, c5, rfl, o5, b5⟩
      have z7 : w4.heap.size ≤ w5.heap.size := b5.size
      have K8 := Lib.hid (K5.out.trans (b5.mono (by omega)))
      clear K5
      have K9 := Lib.hid (K6.out.trans (b5.mono (by omega)))
      clear K6
      have R10 := Lib.hid o5
      have U11 := Lib.hid (under_of o5)
      clear o5
      clear b5
      go_upto_region 8 with fail
      obtain ⟨w6, hw12⟩ : ∃ w', w' = w5.alloc (.cells #[.int .i64 (T : Int), .int .i64 (p.length : Int), .slice a5 ys.length c5] 27) := ⟨_, rfl⟩
      rw [← hw12]
      have b13 : Below w5.heap.size w5 w6 := by rw [hw12]; exact below1 _ _
      have X14 := Lib.hid (show Box 27 w6 w5.heap.size #[.int .i64 (T : Int), .int .i64 (p.length : Int), .slice a5 ys.length c5] by rw [hw12]; exact Box.new _ _ _)
      have z15 : w5.heap.size < w6.heap.size := X14.out.lt
      clear hw12
      have z16 : w5.heap.size ≤ w6.heap.size := b13.size
      have K17 := Lib.hid (K8.out.trans (b13.mono (by omega)))
      clear K8
      have K18 := Lib.hid (K9.out.trans (b13.mono (by omega)))
      clear K9
      have R19 := Lib.hid (R10.out.below b13)
      clear R10
      clear b13
      have S20 := Lib.hid (bsep_old (b := w5.heap.size) U11.out (by omega))
      have c21 := X14.out.cell 0
      have c22 := X14.out.cell 1
      have c23 := X14.out.cell 2
      simp at c21 c22 c23
      have l24 := X14.out.lt
      go_wp2_with fail
      refine (HLE.out w6 (HN1.out.kept K18.out) (by omega) _ _ _ (Own.nums R19.out HTG.out (Nat.le_refl _)) (Nat.le_refl _)).mono ?_
      rintro e w7 ⟨rfl, b5⟩
      clear c21 c22 c23 l24
      have z25 : w6.heap.size ≤ w7.heap.size := b5.size
      have K26 := Lib.hid (K17.out.trans (b5.mono (by omega)))
      clear K17
      have K27 := Lib.hid (K18.out.trans (b5.mono (by omega)))
      clear K18
      have R28 := Lib.hid (R19.out.below b5)
      clear R19
      have X29 := Lib.hid (X14.out.below b5)
      clear X14
      clear b5
      go_wp2_with fail
      refine (HEN.out w7 (HN1.out.kept K27.out) (by omega)).mono ?_
      rintro e w8 ⟨rfl, b5⟩
      have z30 : w7.heap.size ≤ w8.heap.size := b5.size
      have K31 := Lib.hid (K26.out.trans (b5.mono (by omega)))
      clear K26
      have K32 := Lib.hid (K27.out.trans (b5.mono (by omega)))
      clear K27
      have R33 := Lib.hid (R28.out.below b5)
      clear R28
      have X34 := Lib.hid (X29.out.below b5)
      clear X29
      clear b5
      cases hE : endsQ p R with
      | false =>
        go_wp2_with fail
        go_ret
        exact ⟨rfl, K31.out⟩
      | true =>
        have hle := HEND.out hE
        have hdl : decide (N ≤ (p.length : Int)) = true := decide_eq_true hle
        go_wp2_with fail
        go_ret
        exact ⟨rfl, K31.out⟩
    · obtain ⟨e1, e2, e3, e4⟩ := al_no hA
      have hE : endsQ p R = false := by cases h : endsQ p R with | false => rfl | true => rw [(hend h).1] at hA; cases hA
      rw [hE] at HEN
      rw [e1, e2, e3, hA] at HRA
      rw [e4] at HSA
      replace HSA := Lib.hid HSA
      replace HRA := Lib.hid HRA
      replace HEN := Lib.hid HEN
      clear hA hE hend e1 e2 e3 e4 HLE HTG hR hp hq
      go_wp2_with fail
      refine (HSA.out w3 (HN1.out.kept K3.out) (by omega)).mono ?_
      rintro e w4 ⟨rfl, b5⟩
      have z35 : w3.heap.size ≤ w4.heap.size := b5.size
      have K36 := Lib.hid (K2.out.trans (b5.mono (by omega)))
      clear K2
      have K37 := Lib.hid (K3.out.trans (b5.mono (by omega)))
      clear K3
      clear b5
      go_wp2_with fail
      refine (HRA.out w4 (HN1.out.kept K37.out) (by omega)).mono ?_
      rintro e w5 ⟨a5, c5, rfl, o5, b5⟩
      have z38 : w4.heap.size ≤ w5.heap.size := b5.size
      have K39 := Lib.hid (K36.out.trans (b5.mono (by omega)))
      clear K36
      have K40 := Lib.hid (K37.out.trans (b5.mono (by omega)))
      clear K37
      have R41 := Lib.hid o5
      have U42 := Lib.hid (under_of o5)
      clear o5
      clear b5
      go_upto_region 8 with fail
      obtain ⟨w6b, hw43⟩ : ∃ w', w' = w5.alloc (.cells #[.int .i64 0, .int .i64 0, .slice a5 0 c5] 27) := ⟨_, rfl⟩
      rw [← hw43]
      have b44 : Below w5.heap.size w5 w6b := by rw [hw43]; exact below1 _ _
      have X45 := Lib.hid (show Box 27 w6b w5.heap.size #[.int .i64 0, .int .i64 0, .slice a5 0 c5] by rw [hw43]; exact Box.new _ _ _)
      have z46 : w5.heap.size < w6b.heap.size := X45.out.lt
      clear hw43
      have z47 : w5.heap.size ≤ w6b.heap.size := b44.size
      have K48 := Lib.hid (K39.out.trans (b44.mono (by omega)))
      clear K39
      have K49 := Lib.hid (K40.out.trans (b44.mono (by omega)))
      clear K40
      have R50 := Lib.hid (R41.out.below b44)
      clear R41
      clear b44
      have S51 := Lib.hid (bsep_old (b := w5.heap.size) U42.out (by omega))
      go_wp2_with fail
      refine (HEN.out w6b (HN1.out.kept K49.out) (by omega)).mono ?_
      rintro e w6 ⟨rfl, b5⟩
      have z52 : w6b.heap.size ≤ w6.heap.size := b5.size
      have K53 := Lib.hid (K48.out.trans (b5.mono (by omega)))
      clear K48
      have K54 := Lib.hid (K49.out.trans (b5.mono (by omega)))
      clear K49
      have R55 := Lib.hid (R50.out.below b5)
      clear R50
      have X56 := Lib.hid (X45.out.below b5)
      clear X45
      clear b5
      go_wp2_with fail
      refine (HEN.out w6 (HN1.out.kept K54.out) (by omega)).mono ?_
      rintro e w7 ⟨rfl, b5⟩
      have z57 : w6.heap.size ≤ w7.heap.size := b5.size
      have K58 := Lib.hid (K53.out.trans (b5.mono (by omega)))
      clear K53
      have K59 := Lib.hid (K54.out.trans (b5.mono (by omega)))
      clear K54
      have R60 := Lib.hid (R55.out.below b5)
      clear R55
      have X61 := Lib.hid (X56.out.below b5)
      clear X56
      clear b5
      go_wp2_with fail
      go_ret
      exact ⟨rfl, K58.out⟩

end Go.Proofs.Ytmiopbpahkgmbaa
