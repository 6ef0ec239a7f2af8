/- The registers that an instruction reads: what the program and the model answer. -/
import Derived.Test.YtbnebghpakllpaaAsc
import Derived.Test.YtbnebghpakllpaaIns
import Derived.Test.YtbnebghpakllpaaShelf
import Derived.Sort.OwnSortedInts
import Derived.Lib.RowBridge
namespace Go.Proofs.Ytbnebghpakllpaa
open Go.RowKit Go Go.Sort

/-- The fields that are registers which an instruction reads. -/
def rawR (o a b c : Int) : List Int :=
  if o = 2 ∨ o = 13 then [b] else if 3 ≤ o ∧ o ≤ 7 then [b, c] else if o = 9 then [a, b, c] else if o = 10 then [a] else if o = 14 ∨ o = 15 then [a, b] else []

/-- slices.Sort over a row that the call owns. -/
theorem sortI_own {base g cap N : Nat} {xs : List Int} {w : World} (h : Own base w (.slice (some ⟨g, 0, none⟩) N cap) xs) (hl : xs.length ≤ 1000000) :
    Calls Try.prog 69 #[.slice (some ⟨g, 0, none⟩) N cap] w (fun e w' => e = .returned (.tuple #[]) ∧
      Own base w' (.slice (some ⟨g, 0, none⟩) N cap) (xs.mergeSort fun x y => decide (x ≤ y)) ∧ w.grownBy w' (some g)) := by
  have hgl := (World.ownsRow.lt h g rfl).2
  rcases h.2 with ⟨h1, _⟩ | ⟨g', cap', cur, h1, hb, hg, hn, hm, hs, ht⟩
  · cases h1
  · simp only [Value.slice.injEq, Option.some.injEq] at h1
    obtain ⟨ha, rfl, rfl⟩ := h1
    obtain rfl : g = g' := by injection ha
    rw [Nat.mul_one] at ht
    refine (Try.slices_Sort_int g 0 cap xs w (holds_of_blockI hg ht) hgl (by omega)).mono ?_
    rintro e w' ⟨rfl, n, os, rfl⟩
    refine ⟨rfl, ?_, grownBy_sortedI _⟩
    have hlen : (xs.mergeSort fun x y => decide (x ≤ y)).length = xs.length := List.length_mergeSort _
    unfold Own
    rw [hlen]
    exact ownsRow_sortedI hlen hb hg hn hm hs

/-- slices.Compact over a row that the call owns. -/
theorem compactI_own {base g cap N : Nat} {xs : List Int} {w : World} (h : Own base w (.slice (some ⟨g, 0, none⟩) N cap) xs) (hl : xs.length ≤ 1000000) :
    Calls Try.prog 70 #[.slice (some ⟨g, 0, none⟩) N cap] w (fun e w' => e = .returned (.slice (some ⟨g, 0, none⟩) (Lib.compact xs).length cap) ∧
      Own base w' (.slice (some ⟨g, 0, none⟩) (Lib.compact xs).length cap) (Lib.compact xs) ∧ w.grownBy w' (some g)) := by
  rcases h.2 with ⟨h1, _⟩ | ⟨g', cap', cur, h1, hb, hg, hn, hm, hs, ht⟩
  · cases h1
  · simp only [Value.slice.injEq, Option.some.injEq] at h1
    obtain ⟨ha, rfl, rfl⟩ := h1
    obtain rfl : g = g' := by injection ha
    rw [Nat.mul_one] at ht
    refine (Try.slices_Compact_int g 0 cap xs w (holds_of_blockI hg ht) (by omega) (by omega)).mono ?_
    rintro e w' ⟨rfl, q, rfl⟩
    have hle := Lib.compact_length_le xs
    have hlen : (Lib.compact xs ++ List.replicate (xs.length - (Lib.compact xs).length) 0).length = xs.length := by simp; omega
    have ho := ownsRow_sortedI (n := q) (os := #[]) hlen hb hg hn hm hs
    rw [grow_empty] at ho
    have hgr := grownBy_sortedI (w := w) (g := g) (n := q) (os := #[]) (Lib.compact xs ++ List.replicate (xs.length - (Lib.compact xs).length) 0).toArray
    rw [grow_empty] at hgr
    refine ⟨rfl, ⟨by simp, ?_⟩, hgr⟩
    rcases ho.2 with ⟨h1, _⟩ | ⟨g'', cap'', cur'', h1, hb', hg', hn', hm', hs', ht'⟩
    · cases h1
    · simp only [Value.slice.injEq, Option.some.injEq] at h1
      obtain ⟨ha', _, rfl⟩ := h1
      obtain rfl : g = g'' := by injection ha'
      refine .inr ⟨g, cap, cur'', rfl, hb', hg', by omega, hm', hs', ?_⟩
      rw [Nat.mul_one] at ht' ⊢
      rw [show cur''.toList.take (Lib.compact xs).length = (cur''.toList.take xs.length).take (Lib.compact xs).length by rw [List.take_take, Nat.min_eq_left hle], ht', List.map_append, List.take_append_of_le_length (by simp), List.take_of_length_le (by simp)]

/-- A literal row: the call owns it. -/
theorem Own.made {B n k : Nat} (w : World) (xs : List Int) (hn : n = w.heap.size) (hB : B ≤ n) (hk : k = xs.length) (h : xs.length ≤ maxLen) :
    Own B (w.alloc (.cells (xs.map (Value.int .i64)).toArray 3)) (.slice (some ⟨n, 0, none⟩) k k) xs := by
  subst hn hk
  refine ⟨by simp, .inr ⟨w.heap.size, xs.length, _, rfl, hB, heap_alloc_new w _, Nat.le_refl _, h, by simp, ?_⟩⟩
  rw [Nat.mul_one]
  exact List.take_of_length_le (by simp)

/-- What a call leaves that returns a new row of numbers. -/
def RowSaid (xs : List Int) (w : World) (e : Ending) (w' : World) : Prop :=
  ∃ v : Value, e = .returned v ∧ Own w.heap.size w' v xs ∧ Below w.heap.size w w'

theorem reads_ret {g cap : Nat} {w w2 : World} {xs ys : List Int} (h : xs = ys) (ho : Own w.heap.size w2 (.slice (some ⟨g, 0, none⟩) xs.length cap) xs) (hb : Below w.heap.size w w2) :
    RowSaid ys w (.returned (.slice (some ⟨g, 0, none⟩) xs.length cap)) w2 := by
  subst h
  exact ⟨_, rfl, ho, hb⟩

end Go.Proofs.Ytbnebghpakllpaa
