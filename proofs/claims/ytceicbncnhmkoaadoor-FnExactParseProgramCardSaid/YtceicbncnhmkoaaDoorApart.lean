/- Rows that a call owns, apart from each other. No program is named here. -/
import Derived.Test.YtceicbncnhmkoaaDoorBase
import Derived.Laws.AppendOwn
namespace Go.Proofs.YtceicbncnhmkoaaDoor
open Go.RowKit Go

/-- A row that lies wholly below another one's base, or wholly above it, stays while that one is written. -/
theorem rows_apart {w w' : World} {b1 b2 n1 n2 s1 s2 : Nat} {e1 e2 : TypeId} {v1 v2 : Value} {xs ys : List Value} (h : w.ownsRow b1 e1 s1 v1 n1 xs) (h2 : w.ownsRow b2 e2 s2 v2 n2 ys)
    (hlt : (∀ g, v1.ownBlock = some g → g < b2) ∨ ∀ g, v2.ownBlock = some g → g < b1) (hg : w.grownBy w' v2.ownBlock) : w'.ownsRow b1 e1 s1 v1 n1 xs := by
  refine World.ownsRow.kept h hg ?_
  cases hv : v1.ownBlock with
  | none => exact .inl rfl
  | some g =>
    refine .inr fun e => ?_
    have h3 := (World.ownsRow.lt h2 g e.symm).1
    have h4 := (World.ownsRow.lt h g hv).1
    rcases hlt with hlt | hlt
    · have := hlt g hv; omega
    · have := hlt g e.symm; omega

theorem below_grownR {base B n s : Nat} {e : TypeId} {w w' : World} {v : Value} {xs : List Value} (h : w.ownsRow B e s v n xs) (hg : w.grownBy w' v.ownBlock) (hb : base ≤ B) (hB : base ≤ w.heap.size) : Below base w w' :=
  grownBy_below hg hB (fun k e => by have := (World.ownsRow.lt h k e).1; omega)

end Go.Proofs.YtceicbncnhmkoaaDoor
