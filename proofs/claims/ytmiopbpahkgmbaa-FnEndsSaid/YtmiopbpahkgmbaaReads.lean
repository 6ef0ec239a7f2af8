/- The registers that an instruction reads: what the program and the model answer. -/
import Derived.Test.YtmiopbpahkgmbaaAsc
import Derived.Test.YtmiopbpahkgmbaaIns
import Derived.Test.YtmiopbpahkgmbaaShelf
import Derived.Sort.OwnSortedInts
import Derived.Lib.RowBridge
namespace Go.Proofs.Ytmiopbpahkgmbaa
open Go.RowKit Go Go.Sort

/-- The fields that are registers which an instruction reads. -/
def rawR (o a b c : Int) : List Int :=
  if o = 2 ∨ o = 13 then [b] else if 3 ≤ o ∧ o ≤ 7 then [b, c] else if o = 9 then [a, b, c] else if o = 10 then [a] else if o = 14 ∨ o = 15 then [a, b] else []

/-- slices.Sort over a row that the call owns. -/
theorem sortI_own {base g cap N : Nat} {xs : List Int} {w : World} (h : Own base w (.slice (some ⟨g, 0, none⟩) N cap) xs) (hl : xs.length ≤ 1000000) :
    Calls Try.prog 56 #[.slice (some ⟨g, 0, none⟩) N cap] w (fun e w' => e = .returned (.tuple #[]) ∧
      Own base w' (.slice (some ⟨g, 0, none⟩) N cap) (xs.mergeSort fun x y => decide (x ≤ y)) ∧ w.grownBy w' (some g)) := by
  have hgl := (World.ownsRow.lt h g rfl).2
  rcases h.2 with ⟨h1, _⟩ | ⟨g', cap', cur, h1, hb, hg, hn, hm, hs, ht⟩
  · cases h1
  · simp only [Value.slice.injEq, Option.some.injEq] at h1
    obtain ⟨ha, rfl, rfl⟩ := h1
    obtain rfl : g = g' := by injection ha
    rw [Nat.mul_one] at ht
    refine (Try.slices_Sort_int g 0 cap xs w (holds_of_blockI hg ht) hgl (by omega)).mono ?_
    rintro e w' ⟨rfl, n, os, rfl⟩
    refine ⟨rfl, ?_, grownBy_sortedI _⟩
    have hlen : (xs.mergeSort fun x y => decide (x ≤ y)).length = xs.length := List.length_mergeSort _
    unfold Own
    rw [hlen]
    exact ownsRow_sortedI hlen hb hg hn hm hs

/-- slices.Compact over a row that the call owns. -/
theorem compactI_own {base g cap N : Nat} {xs : List Int} {w : World} (h : Own base w (.slice (some ⟨g, 0, none⟩) N cap) xs) (hl : xs.length ≤ 1000000) :
    Calls Try.prog 57 #[.slice (some ⟨g, 0, none⟩) N cap] w (fun e w' => e = .returned (.slice (some ⟨g, 0, none⟩) (Lib.compact xs).length cap) ∧
      Own base w' (.slice (some ⟨g, 0, none⟩) (Lib.compact xs).length cap) (Lib.compact xs) ∧ w.grownBy w' (some g)) := by
  rcases h.2 with ⟨h1, _⟩ | ⟨g', cap', cur, h1, hb, hg, hn, hm, hs, ht⟩
  · cases h1
  · simp only [Value.slice.injEq, Option.some.injEq] at h1
    obtain ⟨ha, rfl, rfl⟩ := h1
    obtain rfl : g = g' := by injection ha
    rw [Nat.mul_one] at ht
    refine (Try.slices_Compact_int g 0 cap xs w (holds_of_blockI hg ht) (by omega) (by omega)).mono ?_
    rintro e w' ⟨rfl, q, rfl⟩
    have hle := Lib.compact_length_le xs
    have hlen : (Lib.compact xs ++ List.replicate (xs.length - (Lib.compact xs).length) 0).length = xs.length := by simp; omega
    have ho := ownsRow_sortedI (n := q) (os := #[]) hlen hb hg hn hm hs
    rw [grow_empty] at ho
    have hgr := grownBy_sortedI (w := w) (g := g) (n := q) (os := #[]) (Lib.compact xs ++ List.replicate (xs.length - (Lib.compact xs).length) 0).toArray
    rw [grow_empty] at hgr
    refine ⟨rfl, ⟨by simp, ?_⟩, hgr⟩
    rcases ho.2 with ⟨h1, _⟩ | ⟨g'', cap'', cur'', h1, hb', hg', hn', hm', hs', ht'⟩
    · cases h1
    · simp only [Value.slice.injEq, Option.some.injEq] at h1
      obtain ⟨ha', _, rfl⟩ := h1
      obtain rfl : g = g'' := by injection ha'
      refine .inr ⟨g, cap, cur'', rfl, hb', hg', by omega, hm', hs', ?_⟩
      rw [Nat.mul_one] at ht' ⊢
      rw [show cur''.toList.take (Lib.compact xs).length = (cur''.toList.take xs.length).take (Lib.compact xs).length by rw [List.take_take, Nat.min_eq_left hle], ht', List.map_append, List.take_append_of_le_length (by simp), List.take_of_length_le (by simp)]

/-- A literal row: the call owns it. -/
theorem Own.made {B n k : Nat} (w : World) (xs : List Int) (hn : n = w.heap.size) (hB : B ≤ n) (hk : k = xs.length) (h : xs.length ≤ maxLen) :
    Own B (w.alloc (.cells (xs.map (Value.int .i64)).toArray 3)) (.slice (some ⟨n, 0, none⟩) k k) xs := by
  subst hn hk
  refine ⟨by simp, .inr ⟨w.heap.size, xs.length, _, rfl, hB, heap_alloc_new w _, Nat.le_refl _, h, by simp, ?_⟩⟩
  rw [Nat.mul_one]
  exact List.take_of_length_le (by simp)

/-- What a call leaves that returns a new row of numbers. -/
def RowSaid (xs : List Int) (w : World) (e : Ending) (w' : World) : Prop :=
  ∃ v : Value, e = .returned v ∧ Own w.heap.size w' v xs ∧ Below w.heap.size w w'

theorem reads_ret {g cap : Nat} {w w2 : World} {xs ys : List Int} (h : xs = ys) (ho : Own w.heap.size w2 (.slice (some ⟨g, 0, none⟩) xs.length cap) xs) (hb : Below w.heap.size w w2) :
    RowSaid ys w (.returned (.slice (some ⟨g, 0, none⟩) xs.length cap)) w2 := by
  subst h
  exact ⟨_, rfl, ho, hb⟩

set_option maxRecDepth 100000 in
set_option maxHeartbeats 1000000 in
theorem pReads_b (o a b c : Int) (ho : o = 2 ∨ o = 13) (w : World) : Calls Try.prog 17 #[.agg #[.int .i64 o, .int .i64 a, .int .i64 b, .int .i64 c]] w (RowSaid (ascOf [b]) w) := by
  rcases ho with rfl | rfl
  all_goals
    go_enter Try.func17, Try.ntmps17
    go_wp2_with fail
    refine (sortI_own (base := w.heap.size) (xs := [b]) (Own.made _ _ (by simp) (by omega) rfl (by unfold maxLen; simp)) (by simp)).mono ?_
    rintro e w1 ⟨rfl, o1, g1⟩
    have O1 := Lib.hid o1
    have B1 := Lib.hid ((below2 _ _ _).grown g1 (by simp <;> omega) (by intro k e; cases e; omega))
    clear o1 g1
    go_wp2_with fail
    refine (compactI_own O1.out (by simp)).mono ?_
    rintro e w2 ⟨rfl, o2, g2⟩
    have s1 := B1.out.size
    have O2 := Lib.hid o2
    have B2 := Lib.hid (B1.out.grown g2 s1 (by intro k e; cases e; omega))
    clear o2 g2
    go_wp2_with fail
    go_ret
    exact reads_ret (by simpa using sort_compact [b]) (by have h := O2.out; rw [List.mergeSort_singleton] at h; exact h) B2.out

set_option maxRecDepth 100000 in
set_option maxHeartbeats 1000000 in
theorem pReads_bc (o a b c : Int) (ho : o = 3 ∨ o = 4 ∨ o = 5 ∨ o = 6 ∨ o = 7) (w : World) : Calls Try.prog 17 #[.agg #[.int .i64 o, .int .i64 a, .int .i64 b, .int .i64 c]] w (RowSaid (ascOf [b, c]) w) := by
  rcases ho with rfl | rfl | rfl | rfl | rfl
  all_goals
    go_enter Try.func17, Try.ntmps17
    go_wp2_with fail
    refine (sortI_own (base := w.heap.size) (xs := [b, c]) (Own.made _ _ (by simp) (by omega) rfl (by unfold maxLen; simp)) (by simp)).mono ?_
    rintro e w1 ⟨rfl, o1, g1⟩
    have O1 := Lib.hid o1
    have B1 := Lib.hid ((below2 _ _ _).grown g1 (by simp <;> omega) (by intro k e; cases e; omega))
    clear o1 g1
    go_wp2_with fail
    refine (compactI_own O1.out (by simp)).mono ?_
    rintro e w2 ⟨rfl, o2, g2⟩
    have s1 := B1.out.size
    have O2 := Lib.hid o2
    have B2 := Lib.hid (B1.out.grown g2 s1 (by intro k e; cases e; omega))
    clear o2 g2
    go_wp2_with fail
    go_ret
    exact reads_ret (sort_compact _) O2.out B2.out

set_option maxRecDepth 100000 in
set_option maxHeartbeats 1000000 in
theorem pReads_abc (a b c : Int) (w : World) : Calls Try.prog 17 #[.agg #[.int .i64 9, .int .i64 a, .int .i64 b, .int .i64 c]] w (RowSaid (ascOf [a, b, c]) w) := by
  go_enter Try.func17, Try.ntmps17
  go_wp2_with fail
  refine (sortI_own (base := w.heap.size) (xs := [a, b, c]) (Own.made _ _ (by simp) (by omega) rfl (by unfold maxLen; simp)) (by simp)).mono ?_
  rintro e w1 ⟨rfl, o1, g1⟩
  have O1 := Lib.hid o1
  have B1 := Lib.hid ((below2 _ _ _).grown g1 (by simp <;> omega) (by intro k e; cases e; omega))
  clear o1 g1
  go_wp2_with fail
  refine (compactI_own O1.out (by simp)).mono ?_
  rintro e w2 ⟨rfl, o2, g2⟩
  have s1 := B1.out.size
  have O2 := Lib.hid o2
  have B2 := Lib.hid (B1.out.grown g2 s1 (by intro k e; cases e; omega))
  clear o2 g2
  go_wp2_with fail
  go_ret
  exact reads_ret (sort_compact _) O2.out B2.out

set_option maxRecDepth 100000 in
set_option maxHeartbeats 1000000 in
theorem pReads_a (a b c : Int) (w : World) : Calls Try.prog 17 #[.agg #[.int .i64 10, .int .i64 a, .int .i64 b, .int .i64 c]] w (RowSaid (ascOf [a]) w) := by
  go_enter Try.func17, Try.ntmps17
  go_wp2_with fail
  refine (sortI_own (base := w.heap.size) (xs := [a]) (Own.made _ _ (by simp) (by omega) rfl (by unfold maxLen; simp)) (by simp)).mono ?_
  rintro e w1 ⟨rfl, o1, g1⟩
  have O1 := Lib.hid o1
  have B1 := Lib.hid ((below2 _ _ _).grown g1 (by simp <;> omega) (by intro k e; cases e; omega))
  clear o1 g1
  go_wp2_with fail
  refine (compactI_own O1.out (by simp)).mono ?_
  rintro e w2 ⟨rfl, o2, g2⟩
  have s1 := B1.out.size
  have O2 := Lib.hid o2
  have B2 := Lib.hid (B1.out.grown g2 s1 (by intro k e; cases e; omega))
  clear o2 g2
  go_wp2_with fail
  go_ret
  exact reads_ret (by simpa using sort_compact [a]) (by have h := O2.out; rw [List.mergeSort_singleton] at h; exact h) B2.out

set_option maxRecDepth 100000 in
set_option maxHeartbeats 1000000 in
theorem pReads_ab (o a b c : Int) (ho : o = 14 ∨ o = 15) (w : World) : Calls Try.prog 17 #[.agg #[.int .i64 o, .int .i64 a, .int .i64 b, .int .i64 c]] w (RowSaid (ascOf [a, b]) w) := by
  rcases ho with rfl | rfl
  all_goals
    go_enter Try.func17, Try.ntmps17
    go_wp2_with fail
    refine (sortI_own (base := w.heap.size) (xs := [a, b]) (Own.made _ _ (by simp) (by omega) rfl (by unfold maxLen; simp)) (by simp)).mono ?_
    rintro e w1 ⟨rfl, o1, g1⟩
    have O1 := Lib.hid o1
    have B1 := Lib.hid ((below2 _ _ _).grown g1 (by simp <;> omega) (by intro k e; cases e; omega))
    clear o1 g1
    go_wp2_with fail
    refine (compactI_own O1.out (by simp)).mono ?_
    rintro e w2 ⟨rfl, o2, g2⟩
    have s1 := B1.out.size
    have O2 := Lib.hid o2
    have B2 := Lib.hid (B1.out.grown g2 s1 (by intro k e; cases e; omega))
    clear o2 g2
    go_wp2_with fail
    go_ret
    exact reads_ret (sort_compact _) O2.out B2.out

set_option maxRecDepth 100000 in
set_option maxHeartbeats 1000000 in
theorem pReads_no (o a b c : Int) (e2 : (o == 2) = false) (e3 : (o == 3) = false) (e4 : (o == 4) = false) (e5 : (o == 5) = false) (e6 : (o == 6) = false) (e7 : (o == 7) = false) (e9 : (o == 9) = false) (e10 : (o == 10) = false) (e13 : (o == 13) = false) (e14 : (o == 14) = false) (e15 : (o == 15) = false) (w : World) : Calls Try.prog 17 #[.agg #[.int .i64 o, .int .i64 a, .int .i64 b, .int .i64 c]] w (RowSaid [] w) := by
  go_enter Try.func17, Try.ntmps17
  go_wp2_with fail
  refine (Try.slices_Sort_int_none _ _ _).mono ?_
  rintro e w1 ⟨rfl, rfl⟩
  go_wp2_with fail
  refine (Try.slices_Compact_int_empty _ _ _).mono ?_
  rintro e w1 ⟨rfl, rfl⟩
  go_wp2_with fail
  go_ret
  exact ⟨_, rfl, Own.nil _ _, below1 _ _⟩

theorem pReads_any (o a b c : Int) (w : World) : Calls Try.prog 17 #[.agg #[.int .i64 o, .int .i64 a, .int .i64 b, .int .i64 c]] w (RowSaid (ascOf (rawR o a b c)) w) := by
  unfold rawR
  by_cases h1 : o = 2 ∨ o = 13
  · rw [if_pos h1]; exact pReads_b o a b c h1 w
  · rw [if_neg h1]
    by_cases h2 : 3 ≤ o ∧ o ≤ 7
    · rw [if_pos h2]; exact pReads_bc o a b c (by omega) w
    · rw [if_neg h2]
      by_cases h3 : o = 9
      · rw [if_pos h3]; subst h3; exact pReads_abc a b c w
      · rw [if_neg h3]
        by_cases h4 : o = 10
        · rw [if_pos h4]; subst h4; exact pReads_a a b c w
        · rw [if_neg h4]
          by_cases h5 : o = 14 ∨ o = 15
          · rw [if_pos h5]; exact pReads_ab o a b c h5 w
          · rw [if_neg h5]
            exact pReads_no o a b c (by simp; omega) (by simp; omega) (by simp; omega) (by simp; omega) (by simp; omega) (by simp; omega) (by simp; omega) (by simp; omega) (by simp; omega) (by simp; omega) (by simp; omega) w

end Go.Proofs.Ytmiopbpahkgmbaa
