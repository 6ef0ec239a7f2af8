/- FnReach: what is reached is closed under following, and a way to the exit continues from some successor. -/
import Derived.Test.YtbbeafablmnjnaaFnBranches
import Derived.Test.YtbbeafablmnjnaaDrawNums
namespace Go.Proofs.Ytbbeafablmnjnaa
open Go.RowKit Go

theorem reach_step {p : List I4} {k b : Nat} : Reach p [(k : Int)] b ↔ k = b ∨ ∃ m : Nat, (m : Int) ∈ nextL p k ∧ Reach p [(m : Int)] b := by
  constructor
  · intro h
    refine h (fun b => k = b ∨ ∃ m : Nat, (m : Int) ∈ nextL p k ∧ Reach p [(m : Int)] b) (fun m hm => ?_) ?_
    · rw [List.mem_singleton] at hm
      exact .inl (by omega)
    · rintro j (rfl | ⟨m, hm, hr⟩) i hi
      · exact .inr ⟨i, hi, Reach.start (by simp)⟩
      · exact .inr ⟨m, hm, Reach.closed p _ j hr i hi⟩
  · rintro (rfl | ⟨m, hm, hr⟩)
    · exact Reach.start (by simp)
    · refine hr.of fun i hi => ?_
      rw [List.mem_singleton] at hi
      obtain rfl : i = m := by omega
      exact Reach.closed p _ k (Reach.start (by simp)) i hm

theorem exit_step {p : List I4} {R : List Int → Nat → Bool} (hR : AllReach p R) (hp : progOk p = true) {k : Nat} (hk : k ≤ p.length) : R [(k : Int)] p.length = ((nextL p k).length == 0 || (nextL p k).any fun m => R [m] p.length) := by
  rw [Bool.eq_iff_iff, hR _ _, reach_step, Bool.or_eq_true, List.any_eq_true]
  constructor
  · rintro (rfl | ⟨m, hm, hr⟩)
    · exact .inl (by rw [nextL_end]; rfl)
    · exact .inr ⟨_, hm, (hR _ _).2 hr⟩
  · rintro (h | ⟨m, hm, hr⟩)
    · rcases Nat.lt_or_ge k p.length with h1 | h1
      · have := nextL_pos h1
        have h2 := eq_of_beq h
        omega
      · exact .inl (by omega)
    · obtain ⟨m, rfl⟩ := Int.eq_ofNat_of_zero_le (nextL_rng hp k m hm).1
      exact .inr ⟨m, hm, (hR _ _).1 hr⟩

theorem exitQ_at {p : List I4} {R : List Int → Nat → Bool} {k : Int} (hp : progOk p = true) (h0 : 0 ≤ k) (hk : k ≤ p.length) : exitQ p R k = R [k] p.length := by
  unfold exitQ
  rw [nodeOk_iff.2 ⟨hp, h0, hk⟩, Bool.true_and]

theorem orT_take {f : Int → Bool} {xs : List Int} {k : Nat} (hk : k < xs.length) (b : Bool) : (b || (xs.take (k + 1)).any f) = ((b || (xs.take k).any f) || f xs[k]) := by
  rw [List.take_succ_eq_append_getElem hk, List.any_append]
  simp [Bool.or_assoc]

theorem place_mod {x n : Int} (h : 0 ≤ x) (hn : 0 < n) : ∃ a : Nat, x.tmod n = (a : Int) ∧ (a : Int) < n := by
  rw [Int.tmod_eq_emod_of_nonneg h]
  have h1 := Int.emod_nonneg x (show n ≠ 0 by omega)
  have h2 := Int.emod_lt_of_pos x hn
  exact ⟨(x % n).toNat, by omega, by omega⟩

theorem reach_in {p : List I4} {R : List Int → Nat → Bool} {us rs : List Int} {y : Nat} {m : Int} (hR : AllReach p R) (hp : progOk p = true) (hin : ∀ k : Nat, k < p.length + 1 → inL rs (k : Int) = R us k) (hy : R us y = true) (hm : m ∈ nextL p y) : inL rs m = true := by
  have hr := nextL_rng hp y m hm
  obtain ⟨m, rfl⟩ := Int.eq_ofNat_of_zero_le hr.1
  rw [hin m (by omega), hR us m]
  exact Reach.closed p us y ((hR us y).1 hy) m hm

theorem bytes_below {w w' : World} {a : Option Addr} {len : Nat} (h : Bytes w.heap.size w a len) (hb : Below w.heap.size w w') : Bytes w'.heap.size w' a len := fun j hj => by
  obtain ⟨b, off, x, e, hlt, hc, h0, h1⟩ := h j hj
  exact ⟨b, off, x, e, Nat.lt_of_lt_of_le hlt hb.size, by rw [hb.cell (p := ⟨b, off + j, none⟩) hlt]; exact hc, h0, h1⟩

end Go.Proofs.Ytbbeafablmnjnaa
