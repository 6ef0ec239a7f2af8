/- Rows of bools that a call owns: a made slice, or an array of the call's own. -/
import Derived.Test.YtmiopbpahkgmbaaNext
import Derived.Deep.LoopGhost
import Derived.Deep.MidRow
import Derived.Maps.AppendAt
namespace Go.Proofs.Ytmiopbpahkgmbaa
open Go.RowKit Go

theorem Own.lower {B B' : Nat} {w : World} {v : Value} {xs : List Int} (h : Own B w v xs) (hb : B' ≤ B) : Own B' w v xs :=
  ⟨h.1, h.2.imp id fun ⟨g, c, cur, e1, e2, e3⟩ => ⟨g, c, cur, e1, by omega, e3⟩⟩

/-- A row of bools that the call owns, in block g, from its head on. -/
def OwnB (T : TypeId) (B : Nat) (w : World) (g : Nat) (bs : List Bool) : Prop := w.ownsRow B T 1 (.slice (some ⟨g, 0, none⟩) bs.length bs.length) bs.length (bs.map .bool)

theorem OwnB.lt {T : TypeId} {B g : Nat} {w : World} {bs : List Bool} (h : OwnB T B w g bs) : B ≤ g ∧ g < w.heap.size := World.ownsRow.lt h g rfl
theorem OwnB.below {T : TypeId} {B g : Nat} {w w' : World} {bs : List Bool} (h : OwnB T B w g bs) (hb : Below w.heap.size w w') : OwnB T B w' g bs :=
  World.ownsRow.kept h (row := none) ⟨hb.os, hb.tape, hb.output, hb.size, fun k hk _ => hb.block k hk⟩ (.inr (by simp [Value.ownBlock]))
theorem OwnB.alloc {T : TypeId} {B g : Nat} {w : World} {bs : List Bool} (h : OwnB T B w g bs) (o : Obj) : OwnB T B (w.alloc o) g bs := World.ownsRow.alloc h o
theorem OwnB.grown {T : TypeId} {B g : Nat} {w w' : World} {bs : List Bool} {row : Option Nat} (h : OwnB T B w g bs) (hg : w.grownBy w' row) (hne : some g ≠ row) : OwnB T B w' g bs :=
  World.ownsRow.kept h hg (.inr hne)
theorem OwnB.stored {T : TypeId} {B g : Nat} {w : World} {bs : List Bool} (h : OwnB T B w g bs) (j : Nat) (t : Bool) : OwnB T B (w.setCell ⟨g, j, none⟩ (.bool t)) g (bs.set j t) := by
  have := (World.ownsRow.stored h j (.bool t)).1
  unfold OwnB
  rw [List.length_set, List.map_set]
  exact this
theorem OwnB.cell {T : TypeId} {B g : Nat} {w : World} {bs : List Bool} (h : OwnB T B w g bs) (j : Nat) (hj : j < bs.length) : w.cell? ⟨g, j, none⟩ = some (.bool (bs.getD j false)) := by
  rw [World.ownsRow.cellAt h j (by omega), List.getElem?_map, List.getD_eq_getElem?_getD, List.getElem?_eq_getElem hj]
  rfl
theorem OwnB.frozen {T : TypeId} {B g : Nat} {w : World} {bs : List Bool} (h : OwnB T B w g bs) (j : Nat) : w.frozen? ⟨g, j, none⟩ = false := World.ownsRow.frozenAt h j
theorem OwnB.base {T : TypeId} {B B' g : Nat} {w : World} {bs : List Bool} (h : OwnB T B w g bs) (hb : B' ≤ B) : OwnB T B' w g bs :=
  ⟨h.1, h.2.imp id fun ⟨g, c, cur, e1, e2, e3⟩ => ⟨g, c, cur, e1, by omega, e3⟩⟩
theorem OwnB.made {T : TypeId} {B n : Nat} (w : World) (bs : List Bool) (hn : n = w.heap.size) (hB : B ≤ n) (h : bs.length ≤ maxLen) :
    OwnB T B (w.alloc (.cells (bs.map Value.bool).toArray T)) n bs := by
  subst hn
  refine ⟨by simp, .inr ⟨w.heap.size, bs.length, _, rfl, hB, heap_alloc_new w _, Nat.le_refl _, h, by simp, ?_⟩⟩
  rw [Nat.mul_one]
  exact List.take_of_length_le (by simp)
theorem OwnB.range {T : TypeId} {B g : Nat} {w : World} {bs : List Bool} (h : OwnB T B w g bs) : w.rangeAt g 0 (bs.map .bool) := by
  intro j v hv
  have hj : j < bs.length := by
    have := (List.getElem?_eq_some_iff.1 hv).1
    rwa [List.length_map] at this
  rw [Nat.zero_add, World.ownsRow.cellAt h j (by omega)]
  exact hv
theorem OwnB.there {T : TypeId} {B g : Nat} {w : World} {bs : List Bool} {n : Nat} (h : OwnB T B w g bs) (hn : n ≤ bs.length) : w.there g 0 n := by
  intro j hj
  rw [Nat.zero_add, h.cell j (by omega), h.frozen j]
  exact ⟨rfl, rfl⟩

/-- A result that lies in a variable: the variable's cells. -/
theorem results_cell_mid {P : Program} {fn : Func} {q : Tmp} {ty : TypeId} (h : fn.results = #[.cell q ty]) (tmps : Array Value) (w : World) (b o : Nat) (cs : List Value) (d : TypeDesc) (hp : tmps.getD q undef = .pointer (some ⟨b, o, none⟩)) (hc : w.rangeAt b o cs)
    (hu : P.underlying ty = some d) (hd : d.isRow = true) (hi : (P.info? ty).map (·.size) = some cs.length) : (results fn tmps).run P w = .ok (.agg cs.toArray) w := by
  have hp' : tmps[q]?.getD undef = .pointer (some ⟨b, o, none⟩) := by simpa using hp
  simp [results, h, hp', asAddr, run_loadVar_mid (P := P) w b o ty cs d hc hu hd hi]

/-- Storing many cells into a block of the call's own turns nothing below. -/
theorem below_setCells {B g : Nat} : ∀ (vs : List Value) (o : Nat) {w w1 : World}, Below B w w1 → B ≤ g → Below B w (w1.setCells g o vs)
  | [], _, _, _, h, _ => h
  | v :: vs, o, w, w1, h, hg => by
    rw [World.setCells]
    exact below_setCells vs (o + 1) (h.setCell hg v) hg

end Go.Proofs.Ytmiopbpahkgmbaa
