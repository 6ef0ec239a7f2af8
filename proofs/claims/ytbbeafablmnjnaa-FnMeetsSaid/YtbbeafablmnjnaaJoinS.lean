/- Joins: the model's functions. -/
import Derived.Test.YtbbeafablmnjnaaAfterM
namespace Go.Proofs.Ytbbeafablmnjnaa
open Go.RowKit Go

/-- The join of a branch. -/
def joinB (p : List I4) (R : List Int → Nat → Bool) (RA : List Int → Int → Nat → Bool) (b : Int) : Int := if (nextL p b.toNat).all (fun m => exitQ p R m) = true then firstQ p R RA b else p.length
def joinOfQ (p : List I4) (R : List Int → Nat → Bool) (RA : List Int → Int → Nat → Bool) (b : Int) : Int := if inL (brQ p) b = true then joinB p R RA b else -1
def joinsQ (p : List I4) (R : List Int → Nat → Bool) (RA : List Int → Int → Nat → Bool) : List Int := (brQ p).map (joinB p R RA)
def insideQ (p : List I4) (R : List Int → Nat → Bool) (RA : List Int → Int → Nat → Bool) (b : Int) : List Int := if inL (brQ p) b = true then nodesTo (RA (nextL p b.toNat) (joinB p R RA b)) (p.length + 1) else []
def isInsideQ (p : List I4) (R : List Int → Nat → Bool) (RA : List Int → Int → Nat → Bool) (b x : Int) : Bool := inL (insideQ p R RA b) x
def forwardQ (p : List I4) (R : List Int → Nat → Bool) (RA : List Int → Int → Nat → Bool) (b : Int) : Bool := inL (brQ p) b && (insideQ p R RA b).all fun x => !decide (x ≤ b) && !decide (joinB p R RA b ≤ x)

theorem br_mem {p : List I4} {b : Int} : inL (brQ p) b = true ↔ progOk p = true ∧ ∃ k : Nat, b = k ∧ k < p.length ∧ isBr p k = true := by
  unfold inL brQ
  rw [List.contains_iff_mem]
  split
  · rename_i h
    rw [nodesTo_mem]
    constructor
    · rintro ⟨i, h1, h2, rfl⟩; exact ⟨h, i, rfl, h1, h2⟩
    · rintro ⟨_, i, rfl, h1, h2⟩; exact ⟨i, h1, h2, rfl⟩
  · rename_i h
    constructor
    · intro h1; cases h1
    · rintro ⟨h1, _⟩; exact absurd h1 h
theorem brQ_small {p : List I4} : (∀ x ∈ brQ p, 0 ≤ x ∧ x ≤ p.length) ∧ (brQ p).length ≤ 32 := by
  unfold brQ
  split
  · rename_i h
    have h32 := progOk_len h
    exact ⟨(fun x hx => by obtain ⟨i, h1, _, rfl⟩ := nodesTo_mem.1 hx; omega), Nat.le_trans (nodesTo_le _ _) h32⟩
  · exact ⟨(fun x hx => by cases hx), by simp⟩
theorem branch_all {p : List I4} {b : Nat} (hb : b < p.length) (h : isBr p b = true) (f : Int → Bool) : (nextL p b).all f = (f ((b : Int) + 1) && f p[b].b) := by
  rw [isBr_at hb] at h
  obtain ⟨h10, hne⟩ := Bool.and_eq_true_iff.1 h
  rw [decide_eq_true_eq] at h10
  rw [nextL_at hb]
  unfold nextI
  rw [if_neg (by omega), if_neg (by omega), if_pos h10, Bool.eq_iff_iff, List.all_eq_true, Bool.and_eq_true]
  constructor
  · intro h1
    exact ⟨h1 _ (((ascOf_asc _).2 _).2 (by simp)), h1 _ (((ascOf_asc _).2 _).2 (by simp))⟩
  · rintro ⟨h1, h2⟩ m hm
    have := ((ascOf_asc _).2 m).1 hm
    simp only [List.mem_cons, List.not_mem_nil, or_false] at this
    rcases this with rfl | rfl
    · exact h2
    · exact h1

end Go.Proofs.Ytbbeafablmnjnaa
