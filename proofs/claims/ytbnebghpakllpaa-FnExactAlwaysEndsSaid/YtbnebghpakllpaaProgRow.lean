/- What the exact laws need that answer a new row of numbers for a program. -/
import Derived.Test.YtbnebghpakllpaaEndsP
import Derived.Test.YtbnebghpakllpaaReachS
import Derived.Test.YtbnebghpakllpaaRowI
namespace Go.Proofs.Ytbnebghpakllpaa
open Go.RowKit Go

theorem below_grownP {base B : Nat} {w w' : World} {v : Value} {n : Nat} {xs : List Int} (h : OwnP B w v n xs) (hg : w.grownBy w' v.ownBlock) (hb : base ≤ B) (hB : base ≤ w.heap.size) : Below base w w' :=
  grownBy_below hg hB (fun k e => by have := (World.ownsRow.lt h k e).1; omega)
theorem below_grownI {base B : Nat} {w w' : World} {v : Value} {xs : List Int} (h : Own B w v xs) (hg : w.grownBy w' v.ownBlock) (hb : base ≤ B) (hB : base ≤ w.heap.size) : Below base w w' :=
  grownBy_below hg hB (fun k e => by have := (World.ownsRow.lt h k e).1; omega)
/-- A row that lies wholly above another one stays while that one is written. -/
theorem row_above {w w' : World} {b1 : Nat} {v1 v2 : Value} {xs : List Int} (h : Own b1 w v1 xs) (hlt : ∀ g, v2.ownBlock = some g → g < b1) (hg : w.grownBy w' v2.ownBlock) : Own b1 w' v1 xs := by
  refine World.ownsRow.kept h hg ?_
  cases hv : v1.ownBlock with
  | none => exact .inl rfl
  | some g =>
    refine .inr fun e => ?_
    have := hlt g e.symm
    have := (World.ownsRow.lt h g hv).1
    omega
/-- A row that lies wholly under another one stays while that one is written. -/
theorem row_under {w w' : World} {b1 b2 n : Nat} {v1 v2 : Value} {xs ys : List Int} (h : Own b1 w v1 xs) (hlt : ∀ g, v1.ownBlock = some g → g < b2) (h2 : OwnP b2 w v2 n ys) (hg : w.grownBy w' v2.ownBlock) : Own b1 w' v1 xs := by
  refine World.ownsRow.kept h hg ?_
  cases hv : v1.ownBlock with
  | none => exact .inl rfl
  | some g =>
    refine .inr fun e => ?_
    have := hlt g hv
    have := (World.ownsRow.lt h2 g e.symm).1
    omega

theorem nextQ_le (p : List I4) (k : Int) : (nextQ p k).length ≤ 10000000 := by
  unfold nextQ
  split
  · have := nextL_le p k.toNat; omega
  · simp
theorem nextQ_rng {p : List I4} {k : Int} (hl : p.length ≤ 10000000) : ∀ x ∈ nextQ p k, i64R x := by
  unfold nextQ
  split
  · rename_i h
    exact rng_i64 hl (nextL_rng (nodeOk_iff.1 h).1 _)
  · intro x hx; simp at hx
theorem reachQ_le {p : List I4} {R : List Int → Nat → Bool} {k : Int} : (reachQ p R k).length ≤ 10000000 := by
  unfold reachQ
  split
  · rename_i h
    have := progOk_len (nodeOk_iff.1 h).1
    have := nodesTo_le (R [k]) (p.length + 1)
    omega
  · simp
theorem reachQ_rng {p : List I4} {R : List Int → Nat → Bool} {k : Int} : ∀ x ∈ reachQ p R k, i64R x := by
  unfold reachQ
  split
  · rename_i h
    have := progOk_len (nodeOk_iff.1 h).1
    exact nodesTo_rng _ _ (by omega)
  · intro x hx; simp at hx
theorem brQ_le {p : List I4} : (brQ p).length ≤ 10000000 := by
  unfold brQ
  split
  · rename_i h
    have := progOk_len h
    have := nodesTo_le (isBr p) p.length
    omega
  · simp
theorem brQ_rng {p : List I4} : ∀ x ∈ brQ p, i64R x := by
  unfold brQ
  split
  · rename_i h
    have := progOk_len h
    exact nodesTo_rng _ _ (by omega)
  · intro x hx; simp at hx

end Go.Proofs.Ytbnebghpakllpaa
