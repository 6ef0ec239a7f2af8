/- Whether two programs are the same: the program's and the model's. -/
import Derived.Test.YtnehfghffdgceaaProgP
import Derived.Laws.StructEq
namespace Go.Proofs.Ytnehfghffdgceaa
open Go.RowKit Go

def sameB (p q : List I4) : Bool := decide (flat p = flat q)
theorem same_len {p q : List I4} (h : ¬ p.length = q.length) : sameB p q = false := by
  unfold sameB
  rw [decide_eq_false_iff_not]
  intro e
  exact h (congrArg List.length (flat_inj e))
theorem same_no {p q : List I4} {k : Nat} (hp : k < p.length) (hq : k < q.length) (h : ¬ p[k] = q[k]) : sameB p q = false := by
  unfold sameB
  rw [decide_eq_false_iff_not]
  intro e
  have := flat_inj e
  subst this
  exact h rfl
theorem same_yes {p q : List I4} (hl : q.length = p.length) (h : p.take p.length = q.take p.length) : sameB p q = true := by
  rw [List.take_length, ← hl, List.take_length] at h
  subst h
  unfold sameB
  simp
theorem same_take {p q : List I4} {k : Nat} (hp : k < p.length) (hq : k < q.length) (h : p.take k = q.take k) (hx : p[k] = q[k]) : p.take (k + 1) = q.take (k + 1) := by
  rw [List.take_succ_eq_append_getElem hp, List.take_succ_eq_append_getElem hq, h, hx]

/-- Two instructions that differ differ in their first different field. -/
theorem I4.differ {x y : I4} (h : ¬ x = y) : ¬ x.o = y.o ∨ (x.o = y.o ∧ ¬ x.a = y.a) ∨ (x.o = y.o ∧ x.a = y.a ∧ ¬ x.b = y.b) ∨ (x.o = y.o ∧ x.a = y.a ∧ x.b = y.b ∧ ¬ x.c = y.c) := by
  cases x; cases y
  simp only [I4.mk.injEq, not_and] at h
  simp only
  omega

set_option maxHeartbeats 1000000 in
theorem sSame_any (B1 B2 : Nat) (w : World) (a1 a2 : Option Addr) (p q : List I4) (c1 c2 : Nat) (hl1 : p.length ≤ 10000000) (h1 : Nums B1 w a1 (flat p)) (h2 : Nums B2 w a2 (flat q)) :
    Calls Try.prog 15 #[.slice a1 p.length c1, .slice a2 q.length c2] w (Said (.bool (sameB p q)) w) := by
  have H1 := Lib.hid h1
  have H2 := Lib.hid h2
  clear h1 h2
  by_cases hlen : p.length = q.length
  · have hq := hlen.symm
    have HL := Lib.hid hq
    rw [hq]
    clear hlen hq
    go_enter Try.func15, Try.ntmps15
    go_wp2_with fail
    go_loopw [5] (fun i wr => ∃ k m : Nat, k ≤ p.length ∧ i = .int .i64 k ∧ p.take k = q.take k ∧ wr = w.drewN m) (fun i _ => p.length - (intOf i).toNat)
    case atStart => exact ⟨0, 0, Nat.zero_le _, rfl, by simp, rfl⟩
    case round =>
      obtain ⟨k, m, hk, rfl, ht, rfl⟩ := hrel
      have HT := Lib.hid ht
      clear ht
      by_cases hlt : k < p.length
      · have hlt2 : k < q.length := by rw [HL.out]; exact hlt
        obtain ⟨g1, o1, rfl, _, d0, d1, d2, d3⟩ := H1.out.at4 k hlt
        obtain ⟨g2, o2, rfl, _, e0, e1, e2, e3⟩ := H2.out.at4 k hlt2
        have k0 : (0 : Int) ≤ (k : Int) := Int.natCast_nonneg _
        have k1 : (k : Int) < (p.length : Int) := by omega
        have Hno := Lib.hid (same_no hlt hlt2)
        have Hyes := Lib.hid (same_take hlt hlt2 HT.out)
        generalize p[k] = x at *
        generalize q[k] = y at *
        by_cases hx : x = y
        · have HX := Lib.hid hx
          subst hx
          go_wp2_with fail
          go_quiet (fail)
          go_wp2_with fail
          go_roundw
          case rel => exact ⟨k + 1, _, by omega, by go_num, Hyes.out HX.out, rfl⟩
          case measure => simp [intOf]; omega
        · have HX := Lib.hid hx
          have hd := I4.differ hx
          clear hx
          rcases hd with f0 | ⟨f0, f1⟩ | ⟨f0, f1, f2⟩ | ⟨f0, f1, f2, f3⟩
          · have f0' : (x.o == y.o) = false := by simpa using f0
            clear f0
            go_wp2_with fail
            go_quiet (fail)
            go_wp2_with fail
            go_ret
            exact ⟨ret_bool (Hno.out HX.out).symm, (below_drewN _ _ _).trans (below_drewN _ _ _)⟩
          · have f1' : (x.a == y.a) = false := by simpa using f1
            clear f1
            rw [← f0] at e0
            clear f0
            go_wp2_with fail
            go_quiet (fail)
            go_wp2_with fail
            go_ret
            exact ⟨ret_bool (Hno.out HX.out).symm, (below_drewN _ _ _).trans (below_drewN _ _ _)⟩
          · have f2' : (x.b == y.b) = false := by simpa using f2
            rw [← f0] at e0
            rw [← f1] at e1
            clear f0 f1 f2
            go_wp2_with fail
            go_quiet (fail)
            go_wp2_with fail
            go_ret
            exact ⟨ret_bool (Hno.out HX.out).symm, (below_drewN _ _ _).trans (below_drewN _ _ _)⟩
          · have f3' : (x.c == y.c) = false := by simpa using f3
            rw [← f0] at e0
            rw [← f1] at e1
            rw [← f2] at e2
            clear f0 f1 f2 f3
            go_wp2_with fail
            go_quiet (fail)
            go_wp2_with fail
            go_ret
            exact ⟨ret_bool (Hno.out HX.out).symm, (below_drewN _ _ _).trans (below_drewN _ _ _)⟩
      · obtain rfl : k = p.length := by omega
        go_wp2_with fail
        go_ret
        exact ⟨ret_bool (same_yes HL.out HT.out).symm, below_drewN _ _ _⟩
  · have HS := Lib.hid (same_len hlen)
    have hne : ((p.length : Int) == (q.length : Int)) = false := by simp; omega
    clear hlen
    go_enter Try.func15, Try.ntmps15
    go_wp2_with fail
    go_ret
    exact ⟨ret_bool HS.out.symm, Below.refl _ _⟩

set_option maxHeartbeats 1000000 in
theorem pEqual_any (B1 B2 : Nat) (w : World) (a1 a2 : Option Addr) (p q : List I4) (c1 c2 : Nat) (hl1 : p.length ≤ 10000000) (h1 : Nums B1 w a1 (flat p)) (h2 : Nums B2 w a2 (flat q)) :
    Calls Try.prog 29 #[.slice a1 p.length c1, .slice a2 q.length c2] w (Said (.bool (sameB p q)) w) := by
  have H1 := Lib.hid h1
  have H2 := Lib.hid h2
  clear h1 h2
  by_cases hlen : p.length = q.length
  · have hq := hlen.symm
    have HL := Lib.hid hq
    rw [hq]
    clear hlen hq
    go_enter Try.func29, Try.ntmps29
    go_wp2_with fail
    go_loopw [13] (fun i wr => ∃ k m : Nat, k ≤ p.length ∧ i = .int .i64 k ∧ p.take k = q.take k ∧ wr = w.drewN m) (fun i _ => p.length - (intOf i).toNat)
    case atStart => exact ⟨0, 0, Nat.zero_le _, rfl, by simp, rfl⟩
    case round =>
      obtain ⟨k, m, hk, rfl, ht, rfl⟩ := hrel
      have HT := Lib.hid ht
      clear ht
      by_cases hlt : k < p.length
      · have hlt2 : k < q.length := by rw [HL.out]; exact hlt
        obtain ⟨g1, o1, rfl, _, d0, d1, d2, d3⟩ := H1.out.at4 k hlt
        obtain ⟨g2, o2, rfl, _, e0, e1, e2, e3⟩ := H2.out.at4 k hlt2
        have k0 : (0 : Int) ≤ (k : Int) := Int.natCast_nonneg _
        have k1 : (k : Int) < (p.length : Int) := by omega
        have Hno := Lib.hid (same_no hlt hlt2)
        have Hyes := Lib.hid (same_take hlt hlt2 HT.out)
        generalize p[k] = x at *
        generalize q[k] = y at *
        by_cases hx : x = y
        · have HX := Lib.hid hx
          subst hx
          go_wp2_with fail
          go_quiet (fail)
          go_wp2_with fail
          go_roundw
          case rel => exact ⟨k + 1, _, by omega, by go_num, Hyes.out HX.out, rfl⟩
          case measure => simp [intOf]; omega
        · have HX := Lib.hid hx
          have hd := I4.differ hx
          clear hx
          rcases hd with f0 | ⟨f0, f1⟩ | ⟨f0, f1, f2⟩ | ⟨f0, f1, f2, f3⟩
          · have f0' : (x.o == y.o) = false := by simpa using f0
            clear f0
            go_wp2_with fail
            go_quiet (fail)
            go_wp2_with fail
            go_ret
            exact ⟨ret_bool (Hno.out HX.out).symm, (below_drewN _ _ _).trans (below_drewN _ _ _)⟩
          · have f1' : (x.a == y.a) = false := by simpa using f1
            clear f1
            rw [← f0] at e0
            clear f0
            go_wp2_with fail
            go_quiet (fail)
            go_wp2_with fail
            go_ret
            exact ⟨ret_bool (Hno.out HX.out).symm, (below_drewN _ _ _).trans (below_drewN _ _ _)⟩
          · have f2' : (x.b == y.b) = false := by simpa using f2
            rw [← f0] at e0
            rw [← f1] at e1
            clear f0 f1 f2
            go_wp2_with fail
            go_quiet (fail)
            go_wp2_with fail
            go_ret
            exact ⟨ret_bool (Hno.out HX.out).symm, (below_drewN _ _ _).trans (below_drewN _ _ _)⟩
          · have f3' : (x.c == y.c) = false := by simpa using f3
            rw [← f0] at e0
            rw [← f1] at e1
            rw [← f2] at e2
            clear f0 f1 f2 f3
            go_wp2_with fail
            go_quiet (fail)
            go_wp2_with fail
            go_ret
            exact ⟨ret_bool (Hno.out HX.out).symm, (below_drewN _ _ _).trans (below_drewN _ _ _)⟩
      · obtain rfl : k = p.length := by omega
        go_wp2_with fail
        go_ret
        exact ⟨ret_bool (same_yes HL.out HT.out).symm, below_drewN _ _ _⟩
  · have HS := Lib.hid (same_len hlen)
    have hne : ((p.length : Int) == (q.length : Int)) = false := by simp; omega
    clear hlen
    go_enter Try.func29, Try.ntmps29
    go_wp2_with fail
    go_ret
    exact ⟨ret_bool HS.out.symm, Below.refl _ _⟩

set_option maxHeartbeats 400000 in
theorem pSame_any (B1 B2 : Nat) (w : World) (a1 a2 : Option Addr) (p q : List I4) (c1 c2 : Nat) (hl1 : p.length ≤ 10000000) (h1 : Nums B1 w a1 (flat p)) (h2 : Nums B2 w a2 (flat q)) :
    Calls Try.prog 16 #[.slice a1 p.length c1, .slice a2 q.length c2] w (Said (.bool (sameB p q)) w) := by
  have h := Lib.hid (pEqual_any B1 B2 w a1 a2 p q c1 c2 hl1 h1 h2)
  clear h1 h2
  go_enter Try.func16, Try.ntmps16
  go_wp2_with fail
  refine h.out.mono ?_
  rintro e w' ⟨rfl, b⟩
  go_wp2_with fail
  go_ret
  exact ⟨rfl, b⟩

set_option maxHeartbeats 1000000 in
theorem fnExactSamePrograms_walk (a1 a2 : Option Addr) (p q : List I4) (c1 c2 : Nat) (w : World) (hm1 : p.length ≤ maxLen) (hm2 : q.length ≤ maxLen) (hn1 : Nums w.heap.size w a1 (flat p)) (hn2 : Nums w.heap.size w a2 (flat q)) :
    Calls Try.prog 5 #[.slice a1 p.length c1, .slice a2 q.length c2] w fun e w' => e = .returned (.bool true) ∧ Below w.heap.size w w' := by
  have hm1' : p.length ≤ 9223372036854775807 := by unfold maxLen at hm1; omega
  have hm2' : q.length ≤ 9223372036854775807 := by unfold maxLen at hm2; omega
  have HN := Lib.hid hn1
  have HM := Lib.hid hn2
  have hz := fun W => szP_any a1 p.length c1 1048576 W (by omega) (by omega) hm1'
  clear hn1 hn2 hm1 hm2
  by_cases hbig : 1048576 < p.length
  · rw [if_pos (by omega)] at hz
    replace hz := Lib.hid hz
    go_enter Try.func5, Try.ntmps5
    go_wp2_with fail
    refine (hz.out _).mono ?_
    rintro e w' ⟨rfl, rfl⟩
    go_wp2_with fail
    go_ret
    exact ⟨rfl, Below.refl _ _⟩
  · rw [if_neg (by omega)] at hz
    have hs : p.length ≤ 1048576 := by omega
    have hs2 : p.length ≤ 10000000 := by omega
    have hd : decide ((1048576 : Int) - (p.length : Int) < 0) = false := by simp; omega
    replace hz := Lib.hid hz
    have hy := fun W => szP_any a2 q.length c2 ((1048576 : Int) - (p.length : Int)) W (by omega) (by omega) hm2'
    by_cases hbig2 : (1048576 : Int) - (p.length : Int) < (q.length : Int)
    · rw [if_pos hbig2] at hy
      replace hy := Lib.hid hy
      clear hbig2
      go_enter Try.func5, Try.ntmps5
      go_wp2_with fail
      refine (hz.out _).mono ?_
      rintro e w' ⟨rfl, rfl⟩
      go_wp2_with fail
      refine (hy.out _).mono ?_
      rintro e w' ⟨rfl, rfl⟩
      go_wp2_with fail
      go_ret
      exact ⟨rfl, Below.refl _ _⟩
    · rw [if_neg hbig2] at hy
      have ht : q.length ≤ 1048576 := by omega
      have ht2 : q.length ≤ 10000000 := by omega
      have hd2 : decide ((1048576 : Int) - (p.length : Int) - (q.length : Int) < 0) = false := by simp; omega
      replace hy := Lib.hid hy
      have hrg := Lib.hid HN.out.1
      have hrh := Lib.hid HM.out.1
      obtain ⟨v, hv⟩ : ∃ v, v = sameB p q := ⟨_, rfl⟩
      have HV := Lib.hid hv
      clear hv hbig2
      go_enter Try.func5, Try.ntmps5
      go_wp2_with fail
      refine (hz.out _).mono ?_
      rintro e w' ⟨rfl, rfl⟩
      go_wp2_with fail
      refine (hy.out _).mono ?_
      rintro e w' ⟨rfl, rfl⟩
      go_wp2_with fail
      refine (toInsS_any _ _ a1 p c1 hs HN.out (Nat.le_refl _)).mono ?_
      rintro e w1 ⟨rfl, o1, b1⟩
      have s1 := b1.size
      have H1 := Lib.hid (HN.out.kept b1)
      have M1 := Lib.hid (HM.out.kept b1)
      have A1 := Lib.hid b1
      have O1 := Lib.hid o1
      clear o1 b1
      go_wp2_with fail
      refine (toInsS_any _ _ a2 q c2 ht M1.out s1).mono ?_
      rintro e w2 ⟨rfl, o2, b2⟩
      have s2 := b2.size
      have H2 := Lib.hid (H1.out.kept (b2.mono s1))
      have M2 := Lib.hid (M1.out.kept (b2.mono s1))
      have A2 := Lib.hid (A1.out.trans (b2.mono s1))
      have N1 := Lib.hid ((O1.out.below b2).nums hrg.out (Nat.le_refl _))
      have N2 := Lib.hid (o2.nums hrh.out (Nat.le_refl _))
      clear o2 b2
      go_wp2_with fail
      refine (sSame_any _ _ _ _ _ p q _ _ hs2 N1.out N2.out).mono ?_
      rw [← HV.out]
      rintro e w3 ⟨rfl, b3⟩
      have s3 := b3.size
      have H3 := Lib.hid (H2.out.kept (b3.mono (by omega)))
      have M3 := Lib.hid (M2.out.kept (b3.mono (by omega)))
      have A3 := Lib.hid (A2.out.trans (b3.mono (by omega)))
      clear b3
      go_wp2_with fail
      refine (toInsS_any _ _ a1 p c1 hs H3.out (by omega)).mono ?_
      rintro e w4 ⟨rfl, o4, b4⟩
      have s4 := b4.size
      have H4 := Lib.hid (H3.out.kept (b4.mono (by omega)))
      have M4 := Lib.hid (M3.out.kept (b4.mono (by omega)))
      have A4 := Lib.hid (A3.out.trans (b4.mono (by omega)))
      have O4 := Lib.hid o4
      clear o4 b4
      go_wp2_with fail
      refine (toInsS_any _ _ a2 q c2 ht M4.out (by omega)).mono ?_
      rintro e w5 ⟨rfl, o5, b5⟩
      have s5 := b5.size
      have H5 := Lib.hid (H4.out.kept (b5.mono (by omega)))
      have M5 := Lib.hid (M4.out.kept (b5.mono (by omega)))
      have A5 := Lib.hid (A4.out.trans (b5.mono (by omega)))
      have O4b := Lib.hid (O4.out.below b5)
      have O5 := Lib.hid o5
      have N4 := Lib.hid (O4b.out.nums hrg.out (Nat.le_refl _))
      have N5 := Lib.hid (o5.nums hrh.out (Nat.le_refl _))
      clear o5 b5
      go_wp2_with fail
      refine (pSame_any _ _ _ _ _ p q _ _ hs2 N4.out N5.out).mono ?_
      rw [← HV.out]
      rintro e w6 ⟨rfl, b6⟩
      have s6 := b6.size
      have H6 := Lib.hid (H5.out.kept (b6.mono (by omega)))
      have M6 := Lib.hid (M5.out.kept (b6.mono (by omega)))
      have A6 := Lib.hid (A5.out.trans (b6.mono (by omega)))
      have O4c := Lib.hid (O4b.out.below b6)
      have O5c := Lib.hid (O5.out.below b6)
      clear b6
      go_wp2_with fail
      refine (toInsS_any _ _ a1 p c1 hs H6.out (by omega)).mono ?_
      rintro e w7 ⟨rfl, o7, b7⟩
      have s7 := b7.size
      have M7 := Lib.hid (M6.out.kept (b7.mono (by omega)))
      have A7 := Lib.hid (A6.out.trans (b7.mono (by omega)))
      have N7 := Lib.hid (o7.nums hrg.out (Nat.le_refl _))
      have N4d := Lib.hid ((O4c.out.below b7).nums hrg.out (Nat.le_refl _))
      have O5d := Lib.hid (O5c.out.below b7)
      clear o7 b7
      go_wp2_with fail
      refine (eqP_same _ _ _ _ _ _ p _ hs2 N4d.out N7.out (Nat.le_refl _) (Nat.le_refl _)).mono ?_
      rintro e w8 ⟨rfl, b8⟩
      have s8 := b8.size
      have M8 := Lib.hid (M7.out.kept (b8.mono (by omega)))
      have A8 := Lib.hid (A7.out.trans (b8.mono (by omega)))
      have O5e := Lib.hid (O5d.out.below b8)
      clear b8
      go_wp2_with fail
      refine (toInsS_any _ _ a2 q c2 ht M8.out (by omega)).mono ?_
      rintro e w9 ⟨rfl, o9, b9⟩
      have s9 := b9.size
      have A9 := Lib.hid (A8.out.trans (b9.mono (by omega)))
      have N9 := Lib.hid (o9.nums hrh.out (Nat.le_refl _))
      have N5f := Lib.hid ((O5e.out.below b9).nums hrh.out (Nat.le_refl _))
      clear o9 b9
      go_wp2_with fail
      refine (eqP_same _ _ _ _ _ _ q _ ht2 N5f.out N9.out (Nat.le_refl _) (Nat.le_refl _)).mono ?_
      rintro e w10 ⟨rfl, b10⟩
      have A10 := Lib.hid (A9.out.trans (b10.mono (by omega)))
      clear b10
      go_wp2_with fail
      go_ret
      exact ⟨rfl, A10.out⟩

end Go.Proofs.Ytnehfghffdgceaa
