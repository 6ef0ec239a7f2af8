/- Whether two programs are the same: the program's and the model's. -/
import Derived.Test.YtceicbncnhmkoaaDoorProgP
import Derived.Laws.StructEq
namespace Go.Proofs.YtceicbncnhmkoaaDoor
open Go.RowKit Go

def sameB (p q : List I4) : Bool := decide (flat p = flat q)
theorem same_len {p q : List I4} (h : ¬ p.length = q.length) : sameB p q = false := by
  unfold sameB
  rw [decide_eq_false_iff_not]
  intro e
  exact h (congrArg List.length (flat_inj e))
theorem same_no {p q : List I4} {k : Nat} (hp : k < p.length) (hq : k < q.length) (h : ¬ p[k] = q[k]) : sameB p q = false := by
  unfold sameB
  rw [decide_eq_false_iff_not]
  intro e
  have := flat_inj e
  subst this
  exact h rfl
theorem same_yes {p q : List I4} (hl : q.length = p.length) (h : p.take p.length = q.take p.length) : sameB p q = true := by
  rw [List.take_length, ← hl, List.take_length] at h
  subst h
  unfold sameB
  simp
theorem same_take {p q : List I4} {k : Nat} (hp : k < p.length) (hq : k < q.length) (h : p.take k = q.take k) (hx : p[k] = q[k]) : p.take (k + 1) = q.take (k + 1) := by
  rw [List.take_succ_eq_append_getElem hp, List.take_succ_eq_append_getElem hq, h, hx]

/-- Two instructions that differ differ in their first different field. -/
theorem I4.differ {x y : I4} (h : ¬ x = y) : ¬ x.o = y.o ∨ (x.o = y.o ∧ ¬ x.a = y.a) ∨ (x.o = y.o ∧ x.a = y.a ∧ ¬ x.b = y.b) ∨ (x.o = y.o ∧ x.a = y.a ∧ x.b = y.b ∧ ¬ x.c = y.c) := by
  cases x; cases y
  simp only [I4.mk.injEq, not_and] at h
  simp only
  omega

set_option maxHeartbeats 1000000 in
theorem pEqual_any (B1 B2 : Nat) (w : World) (a1 a2 : Option Addr) (p q : List I4) (c1 c2 : Nat) (hl1 : p.length ≤ 10000000) (h1 : Nums B1 w a1 (flat p)) (h2 : Nums B2 w a2 (flat q)) :
    Calls Tryd.prog 42 #[.slice a1 p.length c1, .slice a2 q.length c2] w (Said (.bool (sameB p q)) w) := by
  have H1 := Lib.hid h1
  have H2 := Lib.hid h2
  clear h1 h2
  by_cases hlen : p.length = q.length
  · have hq := hlen.symm
    have HL := Lib.hid hq
    rw [hq]
    clear hlen hq
    go_enter Tryd.func42, Tryd.ntmps42
    go_wp2_with fail
    go_loopw [13] (fun i wr => ∃ k m : Nat, k ≤ p.length ∧ i = .int .i64 k ∧ p.take k = q.take k ∧ wr = w.drewN m) (fun i _ => p.length - (intOf i).toNat)
    case atStart => exact ⟨0, 0, Nat.zero_le _, rfl, by simp, rfl⟩
    case round =>
      obtain ⟨k, m, hk, rfl, ht, rfl⟩ := hrel
      have HT := Lib.hid ht
      clear ht
      by_cases hlt : k < p.length
      · have hlt2 : k < q.length := by rw [HL.out]; exact hlt
        obtain ⟨g1, o1, rfl, _, d0, d1, d2, d3⟩ := H1.out.at4 k hlt
        obtain ⟨g2, o2, rfl, _, e0, e1, e2, e3⟩ := H2.out.at4 k hlt2
        have k0 : (0 : Int) ≤ (k : Int) := Int.natCast_nonneg _
        have k1 : (k : Int) < (p.length : Int) := by omega
        have Hno := Lib.hid (same_no hlt hlt2)
        have Hyes := Lib.hid (same_take hlt hlt2 HT.out)
        generalize p[k] = x at *
        generalize q[k] = y at *
        by_cases hx : x = y
        · have HX := Lib.hid hx
          subst hx
          go_wp2_with fail
          go_quiet (fail)
          go_wp2_with fail
          go_roundw
          case rel => exact ⟨k + 1, _, by omega, by go_num, Hyes.out HX.out, rfl⟩
          case measure => simp [intOf]; omega
        · have HX := Lib.hid hx
          have hd := I4.differ hx
          clear hx
          rcases hd with f0 | ⟨f0, f1⟩ | ⟨f0, f1, f2⟩ | ⟨f0, f1, f2, f3⟩
          · have f0' : (x.o == y.o) = false := by simpa using f0
            clear f0
            go_wp2_with fail
            go_quiet (fail)
            go_wp2_with fail
            go_ret
            exact ⟨ret_bool (Hno.out HX.out).symm, (below_drewN _ _ _).trans (below_drewN _ _ _)⟩
          · have f1' : (x.a == y.a) = false := by simpa using f1
            clear f1
            rw [← f0] at e0
            clear f0
            go_wp2_with fail
            go_quiet (fail)
            go_wp2_with fail
            go_ret
            exact ⟨ret_bool (Hno.out HX.out).symm, (below_drewN _ _ _).trans (below_drewN _ _ _)⟩
          · have f2' : (x.b == y.b) = false := by simpa using f2
            rw [← f0] at e0
            rw [← f1] at e1
            clear f0 f1 f2
            go_wp2_with fail
            go_quiet (fail)
            go_wp2_with fail
            go_ret
            exact ⟨ret_bool (Hno.out HX.out).symm, (below_drewN _ _ _).trans (below_drewN _ _ _)⟩
          · have f3' : (x.c == y.c) = false := by simpa using f3
            rw [← f0] at e0
            rw [← f1] at e1
            rw [← f2] at e2
            clear f0 f1 f2 f3
            go_wp2_with fail
            go_quiet (fail)
            go_wp2_with fail
            go_ret
            exact ⟨ret_bool (Hno.out HX.out).symm, (below_drewN _ _ _).trans (below_drewN _ _ _)⟩
      · obtain rfl : k = p.length := by omega
        go_wp2_with fail
        go_ret
        exact ⟨ret_bool (same_yes HL.out HT.out).symm, below_drewN _ _ _⟩
  · have HS := Lib.hid (same_len hlen)
    have hne : ((p.length : Int) == (q.length : Int)) = false := by simp; omega
    clear hlen
    go_enter Tryd.func42, Tryd.ntmps42
    go_wp2_with fail
    go_ret
    exact ⟨ret_bool HS.out.symm, Below.refl _ _⟩

set_option maxHeartbeats 400000 in
theorem pSame_any (B1 B2 : Nat) (w : World) (a1 a2 : Option Addr) (p q : List I4) (c1 c2 : Nat) (hl1 : p.length ≤ 10000000) (h1 : Nums B1 w a1 (flat p)) (h2 : Nums B2 w a2 (flat q)) :
    Calls Tryd.prog 14 #[.slice a1 p.length c1, .slice a2 q.length c2] w (Said (.bool (sameB p q)) w) := by
  have h := Lib.hid (pEqual_any B1 B2 w a1 a2 p q c1 c2 hl1 h1 h2)
  clear h1 h2
  go_enter Tryd.func14, Tryd.ntmps14
  go_wp2_with fail
  refine h.out.mono ?_
  rintro e w' ⟨rfl, b⟩
  go_wp2_with fail
  go_ret
  exact ⟨rfl, b⟩

end Go.Proofs.YtceicbncnhmkoaaDoor
