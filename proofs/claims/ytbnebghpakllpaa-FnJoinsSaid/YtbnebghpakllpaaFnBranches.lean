/- FnBranches: a branch has two successors, and all other instructions have one. -/
import Derived.Test.YtbnebghpakllpaaEndsP
import Derived.Test.YtbnebghpakllpaaWild
import Derived.Test.YtbnebghpakllpaaHas
import Derived.Test.YtbnebghpakllpaaNumber
import Derived.Deep.RegionHeld3
namespace Go.Proofs.Ytbnebghpakllpaa
open Go.RowKit Go

theorem nextL_pos {p : List I4} {k : Nat} (hk : k < p.length) : 0 < (nextL p k).length := by
  rw [nextL_at hk]
  unfold nextI
  repeat' split
  · simp
  · simp
  · refine Nat.pos_of_ne_zero fun h => ?_
    have h1 := List.eq_nil_of_length_eq_zero h
    have h2 := ((ascOf_asc [p[k].b, (k : Int) + 1]).2 p[k].b).2 (by simp)
    rw [h1] at h2
    cases h2
  · simp

theorem inL_nodes {f : Nat → Bool} {n k : Nat} (hk : k < n) : inL (nodesTo f n) (k : Int) = f k := by
  rw [Bool.eq_iff_iff]
  unfold inL
  rw [List.contains_iff_mem, nodesTo_mem]
  constructor
  · rintro ⟨i, _, hf, e⟩
    obtain rfl : k = i := by omega
    exact hf
  · intro hf
    exact ⟨k, hk, hf, rfl⟩

end Go.Proofs.Ytbnebghpakllpaa
