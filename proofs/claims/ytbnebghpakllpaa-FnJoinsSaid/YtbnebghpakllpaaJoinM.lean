/- Joins: what the laws say of the answers, in plain words. -/
import Derived.Test.YtbnebghpakllpaaInsideS
namespace Go.Proofs.Ytbnebghpakllpaa
open Go.RowKit Go

/-- The join of a branch: a node; both successors that reach the exit have it behind them. -/
theorem join_node {p : List I4} {R : List Int → Nat → Bool} {RA : List Int → Int → Nat → Bool} (hR : AllReach p R) (hRA : AllAvoid p RA) {b : Nat} (hp : progOk p = true) (hb : b < p.length) (hbr : isBr p b = true) :
    ∃ j : Nat, joinB p R RA b = j ∧ j ≤ p.length ∧ ∀ m : Nat, (m : Int) ∈ nextL p b → exitQ p R m = true → After p m j := by
  unfold joinB
  rw [Int.toNat_natCast]
  cases hall : (nextL p b).all fun m => exitQ p R m with
  | false => exact ⟨p.length, by rw [if_neg (by simp)], Nat.le_refl _, fun m _ _ => After.exit p m⟩
  | true =>
    rw [if_pos rfl]
    rw [List.all_eq_true] at hall
    obtain ⟨x, y, hn, _⟩ := branch_two hbr
    have hxr := nextL_rng hp b x (by rw [hn]; simp)
    obtain ⟨x, rfl⟩ := Int.eq_ofNat_of_zero_le hxr.1
    obtain ⟨_, _, hr⟩ := exit_reach hR (hall (x : Int) (by rw [hn]; simp))
    have hrb : Reach p [(b : Int)] p.length := hr.of fun m hm => by
      rw [List.mem_singleton] at hm
      obtain rfl : m = x := by omega
      exact Reach.closed p _ b (Reach.start (by simp)) m (by rw [hn]; simp)
    obtain ⟨f, e, hfb, hfn, haf, _⟩ := first_some hR hRA (exit_of hR hp (by omega) hrb) (by omega)
    exact ⟨f, e, hfn, fun m hm _ => (After.next hb (by omega)).1 haf m hm⟩

theorem inside_mem {p : List I4} {R : List Int → Nat → Bool} {RA : List Int → Int → Nat → Bool} (hRA : AllAvoid p RA) {b : Nat} (hp : progOk p = true) (hin : inL (brQ p) (b : Int) = true) {x : Int} : inL (insideQ p R RA b) x = true ↔ ∃ k : Nat, x = k ∧ ReachA p (nextL p b) (joinB p R RA b) k := by
  unfold insideQ
  rw [if_pos hin, Int.toNat_natCast]
  unfold inL
  rw [List.contains_iff_mem, nodesTo_mem]
  constructor
  · rintro ⟨i, _, hf, rfl⟩
    exact ⟨i, rfl, (hRA _ _ _).1 hf⟩
  · rintro ⟨k, rfl, hr⟩
    exact ⟨k, by have := hr.le hp (fun u hu => (nextL_rng hp b u hu).2); omega, (hRA _ _ _).2 hr, rfl⟩
/-- The join isn't inside. -/
theorem join_out {p : List I4} {R : List Int → Nat → Bool} {RA : List Int → Int → Nat → Bool} (hRA : AllAvoid p RA) {b : Nat} (hp : progOk p = true) (hin : inL (brQ p) (b : Int) = true) : inL (insideQ p R RA b) (joinB p R RA b) = false := by
  rw [← Bool.not_eq_true, inside_mem hRA hp hin]
  rintro ⟨k, e, hr⟩
  exact hr.ne e.symm
/-- A successor is the join or inside. -/
theorem next_in {p : List I4} {R : List Int → Nat → Bool} {RA : List Int → Int → Nat → Bool} (hRA : AllAvoid p RA) {b : Nat} (hp : progOk p = true) (hin : inL (brQ p) (b : Int) = true) {m : Int} (hm : m ∈ nextL p b) (hne : m ≠ joinB p R RA b) : isInsideQ p R RA b m = true := by
  unfold isInsideQ
  rw [inside_mem hRA hp hin]
  obtain ⟨k, rfl⟩ := Int.eq_ofNat_of_zero_le (nextL_rng hp b m hm).1
  exact ⟨k, rfl, ReachA.start hm hne⟩

end Go.Proofs.Ytbnebghpakllpaa
