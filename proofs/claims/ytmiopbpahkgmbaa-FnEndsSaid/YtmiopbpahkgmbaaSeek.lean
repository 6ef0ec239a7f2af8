/- What is reached, marked: the model's. -/
import Derived.Test.YtmiopbpahkgmbaaQueue
namespace Go.Proofs.Ytmiopbpahkgmbaa
open Go.RowKit Go

theorem info_bool : (Try.prog.info? 4).map (fun i => (i.zero, i.size, i.bytes)) = some (some (.bool false), 1, 1) := by kernel_rfl

/-- A call that returns a new row of bools. -/
def BoolsSaid (bs : List Bool) (w : World) (e : Ending) (w' : World) : Prop :=
  ∃ g : Nat, e = .returned (.slice (some ⟨g, 0, none⟩) bs.length bs.length) ∧ OwnB 4 w.heap.size w' g bs ∧ Below w.heap.size w w'

theorem bools_made {w w1 : World} {n : Nat} (h : w1.ownsRow w.heap.size 4 1 (.slice (some ⟨w.heap.size, 0, none⟩) n n) n (madeCells (Value.bool false).cells (n * 1)).toList) : OwnB 4 w.heap.size w1 w.heap.size (List.replicate n false) := by
  have e : (madeCells (Value.bool false).cells (n * 1)).toList = (List.replicate n false).map .bool := by
    rw [Nat.mul_one]
    show (madeCells #[Value.bool false] n).toList = _
    rw [toList_madeCells_one, List.map_replicate]
  rw [e] at h
  unfold OwnB
  rw [List.length_replicate]
  exact h

/-- The model's search: the world. -/
structure SW (w wr : World) (v : Value) (bs : List Bool) (ys : List Int) : Prop where
  queue : OwnQ (w.heap.size + 1) wr v ys
  marks : OwnB 4 w.heap.size wr w.heap.size bs
  bel : Below w.heap.size w wr

theorem SW.size {w wr : World} {v : Value} {bs : List Bool} {ys : List Int} (h : SW w wr v bs ys) : w.heap.size + 1 ≤ wr.heap.size := by
  have := h.marks.lt
  omega
theorem SW.below {w wr w2 : World} {v : Value} {bs : List Bool} {ys : List Int} (h : SW w wr v bs ys) (hb : Below wr.heap.size wr w2) : SW w w2 v bs ys :=
  ⟨h.queue.below hb, h.marks.below hb, h.bel.trans (hb.mono h.bel.size)⟩
theorem SW.set {w wr : World} {v : Value} {bs : List Bool} {ys : List Int} (h : SW w wr v bs ys) (m : Nat) : SW w (wr.setCell ⟨w.heap.size, m, none⟩ (.bool true)) v (bs.set m true) ys := by
  have hg := grownBy_setCell wr ⟨w.heap.size, m, none⟩ (.bool true)
  refine ⟨h.queue.grown hg (fun e => ?_), h.marks.stored m true, h.bel.setCell (by simp) _⟩
  have := (h.queue.lt _ e).1
  simp at this
  omega
theorem SW.append {w wr w2 : World} {v v2 : Value} {bs : List Bool} {ys zs : List Int} (h : SW w wr v bs ys) (hq : OwnQ (w.heap.size + 1) w2 v2 zs) (hg : wr.grownBy w2 v.ownBlock) : SW w w2 v2 bs zs := by
  have hk : ∀ k, v.ownBlock = some k → w.heap.size + 1 ≤ k := fun k e => (h.queue.lt k e).1
  refine ⟨hq, h.marks.grown hg (fun e => ?_), h.bel.trans (grownBy_below hg h.bel.size (fun k e => ?_))⟩
  · have := hk _ e.symm; omega
  · have := hk _ e; omega
theorem SW.tail {w wr : World} {g off off' n cap : Nat} {x : Int} {bs : List Bool} {ys : List Int} (h : SW w wr (.slice (some ⟨g, off, none⟩) n cap) bs (x :: ys)) (ho : off' = if cap = 1 then off else off + 1) : SW w wr (.slice (some ⟨g, off', none⟩) ys.length (cap - 1)) bs ys :=
  ⟨h.queue.tail ho, h.marks, h.bel⟩

theorem nums_cells {B : Nat} {w : World} {a : Addr} {xs : List Int} (h : Nums B w (some a) xs) : ∀ j u, (xs.map (Value.int .i64))[j]? = some u → w.cell? (a.add j) = some u := by
  intro j u hu
  have hj : j < xs.length := by
    have := (List.getElem?_eq_some_iff.1 hu).1
    rwa [List.length_map] at this
  obtain ⟨g, off, e, _, hc⟩ := h.2 j hj
  cases e
  rw [add_off, hc, ← hu, List.getElem?_map, List.getElem?_eq_getElem hj]
  rfl

theorem seek_start {w w1 w2 : World} {v2 : Value} {n : Nat} {us : List Int} {o : Obj} (hm : OwnB 4 w.heap.size w1 w.heap.size (List.replicate n false)) (hb : Below w.heap.size w w1)
    (hown2 : w2.ownsRow (w.heap.size + 1) 3 1 v2 (0 + us.length) ([] ++ us.map (.int .i64))) (hg2 : (w1.alloc o).grownBy w2 (Value.slice (some ⟨w1.heap.size, 0, none⟩) 0 0).ownBlock) (hnil : v2 = .slice none 0 0 ↔ Value.slice (some ⟨w1.heap.size, 0, none⟩) 0 0 = .slice none 0 0 ∧ us.length = 0) :
    SW w w2 v2 (List.replicate n false) us := by
  have hl := hm.lt
  have hq : OwnQ (w.heap.size + 1) w2 v2 us := by
    refine OwnQ.of_own ?_ (fun e => by have := hnil.1 e; simp at this)
    unfold Own
    rw [Nat.zero_add, List.nil_append] at hown2
    exact hown2
  refine ⟨hq, (hm.alloc o).grown hg2 (by simp [Value.ownBlock]; omega), (hb.alloc hb.size o).grown hg2 (by simp; omega) (fun k e => ?_)⟩
  simp [Value.ownBlock] at e
  omega

end Go.Proofs.Ytmiopbpahkgmbaa
