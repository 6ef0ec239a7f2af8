/- Rows and blocks that lie apart: facts on values alone, whatever the world. -/
import Derived.Test.YtmiopbpahkgmbaaKept
import Derived.Test.YtmiopbpahkgmbaaProgs
import Derived.Test.YtmiopbpahkgmbaaBools
import Derived.Laws.Tables
namespace Go.Proofs.Ytmiopbpahkgmbaa
open Go.RowKit Go

/-- Two rows that share no block. -/
def Sep (v v2 : Value) : Prop := ∀ g, v.ownBlock = some g → v2.ownBlock ≠ some g
/-- A block that is not a row's. -/
def BSep (b : Nat) (v : Value) : Prop := v.ownBlock ≠ some b
/-- A row whose block lies under n. -/
def Under (n : Nat) (v : Value) : Prop := ∀ g, v.ownBlock = some g → g < n

theorem row_sep {w w' : World} {B s n : Nat} {T : TypeId} {v v2 : Value} {us : List Value} (h : w.ownsRow B T s v n us) (hs : Sep v v2) (hg : w.grownBy w' v2.ownBlock) : w'.ownsRow B T s v n us := by
  refine World.ownsRow.kept h hg ?_
  cases hv : v.ownBlock with
  | none => exact .inl rfl
  | some g => exact .inr fun e => hs g hv e.symm
theorem Own.sep {w w' : World} {B : Nat} {v v2 : Value} {xs : List Int} (h : Own B w v xs) (hs : Sep v v2) (hg : w.grownBy w' v2.ownBlock) : Own B w' v xs := row_sep h hs hg
theorem OwnP.sep {w w' : World} {B n : Nat} {v v2 : Value} {xs : List Int} (h : OwnP B w v n xs) (hs : Sep v v2) (hg : w.grownBy w' v2.ownBlock) : OwnP B w' v n xs := row_sep h hs hg
theorem Box.sep {T : TypeId} {w w' : World} {b : Nat} {v2 : Value} {cs : Array Value} (h : Box T w b cs) (hs : BSep b v2) (hg : w.grownBy w' v2.ownBlock) : Box T w' b cs := h.grown hg hs

theorem under_of {w : World} {B s n : Nat} {T : TypeId} {v : Value} {us : List Value} (h : w.ownsRow B T s v n us) : Under w.heap.size v := fun g e => (World.ownsRow.lt h g e).2
/-- The row is newer than the other one. -/
theorem sep_new {w : World} {B s n m : Nat} {T : TypeId} {v v2 : Value} {us : List Value} (h : w.ownsRow B T s v n us) (hu : Under m v2) (hm : m ≤ B) : Sep v v2 := fun g e e2 => by
  have := (World.ownsRow.lt h g e).1
  have := hu g e2
  omega
theorem Sep.symm {v v2 : Value} (h : Sep v v2) : Sep v2 v := fun g e e2 => h g e2 e
/-- The block is older than the row. -/
theorem bsep_new {w : World} {B s n b : Nat} {T : TypeId} {v : Value} {us : List Value} (h : w.ownsRow B T s v n us) (hb : b < B) : BSep b v := fun e => by
  have := (World.ownsRow.lt h b e).1
  omega
/-- The block is newer than the row. -/
theorem bsep_old {n b : Nat} {v : Value} (hu : Under n v) (hb : n ≤ b) : BSep b v := fun e => by
  have := hu b e
  omega
/-- The marking of a row turns nothing under it. -/
theorem mark_below {base : Nat} {w w' : World} {B s n : Nat} {T : TypeId} {v : Value} {us : List Value} (h : w.ownsRow B T s v n us) (hg : w.grownBy w' v.ownBlock) (hb : base ≤ B) (hw : base ≤ w.heap.size) : Below base w w' :=
  grownBy_below hg hw (fun k e => by have := (World.ownsRow.lt h k e).1; omega)

/-- A box that was made just ahead of a call, behind the call; one that stood, behind a call. -/
theorem box_call {T : TypeId} {V W' : World} {cs : Array Value} (hb : Below (V.alloc (.cells cs T)).heap.size (V.alloc (.cells cs T)) W') : Box T W' V.heap.size cs ∧ V.heap.size < (V.alloc (.cells cs T)).heap.size :=
  ⟨(Box.new T V cs).below hb, by simp⟩
theorem box_callD {T : TypeId} {V W' : World} {cs : Array Value} (hb : Below (V.alloc (.cells cs T)).drew.heap.size (V.alloc (.cells cs T)).drew W') : Box T W' V.heap.size cs ∧ V.heap.size < (V.alloc (.cells cs T)).drew.heap.size :=
  box_call (V := V) ((below_drewN _ _ 1).trans hb)
theorem box_step {T : TypeId} {W W' : World} {b : Nat} {cs : Array Value} (h : Box T W b cs) (hb : Below W.heap.size W W') : Box T W' b cs ∧ b < W.heap.size := ⟨h.below hb, h.lt⟩
theorem Box.three {T : TypeId} {w : World} {b : Nat} {x y z : Value} (h : Box T w b #[x, y, z]) : (w.cell? ⟨b, 0, none⟩ = some x ∧ w.cell? ⟨b, 1, none⟩ = some y ∧ w.cell? ⟨b, 2, none⟩ = some z) ∧ (∀ j, w.frozen? ⟨b, j, none⟩ = false) ∧ b < w.heap.size :=
  ⟨⟨h.cell 0, h.cell 1, h.cell 2⟩, h.frozen, h.lt⟩
theorem Box.stored {T : TypeId} {w : World} {g : Nat} {cs : Array Value} (h : Box T w g cs) (j : Nat) (v : Value) : Box T (w.setCell ⟨g, j, none⟩ v) g (cs.setIfInBounds j v) := by
  unfold Box at *
  rw [setCell_eq_setRow w g j cs _ (0, 0) v h]
  exact setRow_heap w g _ _ _ _ h
/-- The end of a region that makes a box of three cells behind its calls, or ahead of them. -/
theorem cut_new {T : TypeId} {w1 w4 : World} {v : Value} {ys : List Int} {cs : Array Value} (o : Own w1.heap.size w4 v ys) (hk : Kept w1 w4) :
    Box T (w4.alloc (.cells cs T)) w4.heap.size cs ∧ Own w1.heap.size (w4.alloc (.cells cs T)) v ys ∧ Below w1.heap.size w1 (w4.alloc (.cells cs T)) :=
  ⟨Box.new T w4 cs, o.alloc _, Kept.alloc hk _⟩
theorem cut_old {T : TypeId} {w1 w4 : World} {W b : Nat} {v : Value} {ys : List Int} {z0 z1 z2 x y z : Value} (hX : Box T w4 b #[z0, z1, z2]) (hb : b < W) (o : Own W w4 v ys) (hW : w1.heap.size ≤ W) (h1 : w1.heap.size ≤ b) (hk : Kept w1 w4) :
    Box T (((w4.setCell ⟨b, 0, none⟩ x).setCell ⟨b, 1, none⟩ y).setCell ⟨b, 2, none⟩ z) b #[x, y, z] ∧ Own w1.heap.size (((w4.setCell ⟨b, 0, none⟩ x).setCell ⟨b, 1, none⟩ y).setCell ⟨b, 2, none⟩ z) v ys ∧ Below w1.heap.size w1 (((w4.setCell ⟨b, 0, none⟩ x).setCell ⟨b, 1, none⟩ y).setCell ⟨b, 2, none⟩ z) :=
  ⟨((hX.stored 0 x).stored 1 y).stored 2 z, Own.lower (((o.setAway _ _ hb).setAway _ _ hb).setAway _ _ hb) hW, ((Below.setCell hk h1 _).setCell h1 _).setCell h1 _⟩

end Go.Proofs.Ytmiopbpahkgmbaa
