/- A world in which all that stood is as it was. -/
import Derived.Test.YtmiopbpahkgmbaaInts
namespace Go.Proofs.Ytmiopbpahkgmbaa
open Go.RowKit Go

def Kept (W w : World) : Prop := Below W.heap.size W w
theorem Kept.drew {W w : World} (h : Kept W w) : Kept W w.drew := Below.trans h (below_drewN _ w 1)
theorem Kept.call {W w w' : World} (h : Kept W w) (hb : Below w.heap.size w w') : Kept W w' := Below.trans h (hb.mono h.size)
theorem Kept.alloc {W w : World} (h : Kept W w) (o : Obj) : Kept W (w.alloc o) := Below.alloc h h.size o

theorem Own.setAway {B : Nat} {w : World} {v : Value} {xs : List Int} (h : Own B w v xs) (p : Addr) (u : Value) (hp : p.block < B) : Own B (w.setCell p u) v xs := by
  refine World.ownsRow.kept h (grownBy_setCell w p u) ?_
  cases hv : v.ownBlock with
  | none => exact .inl rfl
  | some g =>
    refine .inr fun e => ?_
    have := (World.ownsRow.lt h g hv).1
    cases e
    omega

/-- A block whose cells are known, none of them frozen. -/
def Box (T : TypeId) (w : World) (g : Nat) (cs : Array Value) : Prop := w.heap[g]? = some (.cells cs T (0, 0))
theorem Box.cell {T : TypeId} {w : World} {g : Nat} {cs : Array Value} (h : Box T w g cs) (j : Nat) : w.cell? ⟨g, j, none⟩ = cs[j]? := by unfold Box at h; simp [World.cell?, h]
theorem Box.frozen {T : TypeId} {w : World} {g : Nat} {cs : Array Value} (h : Box T w g cs) (j : Nat) : w.frozen? ⟨g, j, none⟩ = false := by unfold Box at h; simp [World.frozen?, h]
theorem Box.lt {T : TypeId} {w : World} {g : Nat} {cs : Array Value} (h : Box T w g cs) : g < w.heap.size := lt_of_block h
theorem Box.new (T : TypeId) (w : World) (cs : Array Value) : Box T (w.alloc (.cells cs T)) w.heap.size cs := heap_alloc_new w _
theorem Box.grown {T : TypeId} {w w' : World} {g : Nat} {cs : Array Value} {row : Option Nat} (h : Box T w g cs) (hg : w.grownBy w' row) (hne : row ≠ some g) : Box T w' g cs := by
  unfold Box
  rw [hg.block g h.lt (fun e => hne e.symm)]
  exact h
theorem Box.below {T : TypeId} {w w' : World} {g : Nat} {cs : Array Value} (h : Box T w g cs) (hb : Below w.heap.size w w') : Box T w' g cs := by
  unfold Box
  rw [hb.block g h.lt]
  exact h
theorem Box.alloc {T : TypeId} {w : World} {g : Nat} {cs : Array Value} (h : Box T w g cs) (o : Obj) : Box T (w.alloc o) g cs := h.grown (World.grownBy_alloc w o none) (by simp)

end Go.Proofs.Ytmiopbpahkgmbaa
