/- Ascending lists without doubles, in plain words: what the model's insertion one by one makes, and what a sort and a compaction make, is the same. No program is named here. -/
import Derived.Test.YtmiopbpahkgmbaaPut
import Derived.Lib.SlicesCompact
namespace Go.Proofs.Ytmiopbpahkgmbaa
open Go.RowKit Go

/-- Ascending, no number twice. -/
def Asc (xs : List Int) : Prop := xs.Pairwise (· < ·)

theorem asc_ext : ∀ {xs ys : List Int}, Asc xs → Asc ys → (∀ x, x ∈ xs ↔ x ∈ ys) → xs = ys
  | [], [], _, _, _ => rfl
  | [], y :: ys, _, _, h => absurd ((h y).2 (by simp)) (by simp)
  | x :: xs, [], _, _, h => absurd ((h x).1 (by simp)) (by simp)
  | x :: xs, y :: ys, hx, hy, h => by
    have hx1 := List.pairwise_cons.1 hx
    have hy1 := List.pairwise_cons.1 hy
    have e : x = y := by
      rcases List.mem_cons.1 ((h x).1 (by simp)) with h1 | h1
      · exact h1
      · rcases List.mem_cons.1 ((h y).2 (by simp)) with h2 | h2
        · exact h2.symm
        · have := hx1.1 y h2
          have := hy1.1 x h1
          omega
    subst e
    rw [asc_ext hx1.2 hy1.2 fun z => ?_]
    constructor
    · intro hz
      rcases List.mem_cons.1 ((h z).1 (List.mem_cons_of_mem _ hz)) with h1 | h1
      · have := hx1.1 z hz; omega
      · exact h1
    · intro hz
      rcases List.mem_cons.1 ((h z).2 (List.mem_cons_of_mem _ hz)) with h1 | h1
      · have := hy1.1 z hz; omega
      · exact h1

theorem cutI_spec (n : Int) (xs : List Int) : ∀ m, (∀ j, cutI n xs m ≤ j → j < m → n < xs.getD j 0) ∧ (0 < cutI n xs m → ¬ n < xs.getD (cutI n xs m - 1) 0)
  | 0 => ⟨fun j _ h => by omega, fun h => by simp [cutI] at h⟩
  | m + 1 => by
    have ih := cutI_spec n xs m
    unfold cutI
    split
    · rename_i h
      refine ⟨fun j h1 h2 => ?_, ih.2⟩
      rcases Nat.lt_or_ge j m with h3 | h3
      · exact ih.1 j h1 h3
      · obtain rfl : j = m := by omega
        exact h
    · rename_i h
      exact ⟨fun j h1 h2 => by omega, fun _ => by simpa using h⟩

theorem asc_lt {xs : List Int} (h : Asc xs) {i j : Nat} (hij : i < j) (hj : j < xs.length) : xs[i] < xs[j] :=
  List.pairwise_iff_getElem.1 h i j (by omega) hj hij

/-- The insertion keeps the list ascending, and holds the number. -/
theorem putI_asc {xs : List Int} (h : Asc xs) (n : Int) : Asc (putI xs n) ∧ ∀ x, x ∈ putI xs n ↔ x = n ∨ x ∈ xs := by
  have hs := cutI_spec n xs xs.length
  have hle := cutI_le n xs xs.length
  unfold putI
  generalize cutI n xs xs.length = k at *
  split
  · rename_i hk
    refine ⟨h, fun x => ⟨.inr, ?_⟩⟩
    rintro (rfl | h1)
    · rw [← hk.2, getD_at (by omega)]; exact List.getElem_mem _
    · exact h1
  · rename_i hk
    have hlo : ∀ x ∈ xs.take k, x < n := by
      intro x hx
      obtain ⟨j, hj, rfl⟩ := List.getElem_of_mem hx
      have hj' : j < k := by rw [List.length_take] at hj; omega
      rw [List.getElem_take]
      have h1 := hs.2 (by omega)
      have h2 : xs.getD (k - 1) 0 ≠ n := fun e => hk ⟨by omega, e⟩
      rw [getD_at (by omega)] at h1 h2
      rcases Nat.lt_or_ge j (k - 1) with h3 | h3
      · have := asc_lt h (i := j) (j := k - 1) h3 (by omega); omega
      · obtain rfl : j = k - 1 := by omega
        omega
    have hhi : ∀ x ∈ xs.drop k, n < x := by
      intro x hx
      obtain ⟨j, hj, rfl⟩ := List.getElem_of_mem hx
      rw [List.length_drop] at hj
      rw [List.getElem_drop]
      have := hs.1 (k + j) (by omega) (by omega)
      rwa [getD_at (by omega)] at this
    constructor
    · refine List.pairwise_append.2 ⟨List.pairwise_append.2 ⟨h.sublist (List.take_sublist _ _), by simp, ?_⟩, h.sublist (List.drop_sublist _ _), ?_⟩
      · intro a ha b hb
        rw [List.mem_singleton] at hb
        subst hb
        exact hlo a ha
      · intro a ha b hb
        have hb' := hhi b hb
        rcases List.mem_append.1 ha with h1 | h1
        · have := hlo a h1; omega
        · rw [List.mem_singleton] at h1
          subst h1
          exact hb'
    · intro x
      have : x ∈ xs ↔ x ∈ xs.take k ∨ x ∈ xs.drop k := by
        rw [← List.mem_append, List.take_append_drop]
      rw [this]
      simp only [List.mem_append, List.mem_singleton]
      constructor
      · rintro ((h1 | h1) | h1)
        · exact .inr (.inl h1)
        · exact .inl h1
        · exact .inr (.inr h1)
      · rintro (h1 | h1 | h1)
        · exact .inl (.inr h1)
        · exact .inl (.inl h1)
        · exact .inr h1

theorem puts_asc : ∀ (us xs : List Int), Asc xs → Asc (us.foldl putI xs) ∧ ∀ x, x ∈ us.foldl putI xs ↔ x ∈ us ∨ x ∈ xs
  | [], xs, h => ⟨h, fun x => by simp⟩
  | u :: us, xs, h => by
    have h1 := putI_asc h u
    have h2 := puts_asc us (putI xs u) h1.1
    refine ⟨h2.1, fun x => ?_⟩
    rw [List.foldl_cons, h2.2 x, h1.2 x, List.mem_cons]
    constructor
    · rintro (h | h | h)
      · exact .inl (.inr h)
      · exact .inl (.inl h)
      · exact .inr h
    · rintro ((h | h) | h)
      · exact .inr (.inl h)
      · exact .inl h
      · exact .inr (.inr h)

/-- The numbers of a list, ascending, each once. -/
def ascOf (us : List Int) : List Int := us.foldl putI []
theorem ascOf_asc (us : List Int) : Asc (ascOf us) ∧ ∀ x, x ∈ ascOf us ↔ x ∈ us := by
  have h := puts_asc us [] List.Pairwise.nil
  exact ⟨h.1, fun x => by rw [ascOf, h.2]; simp⟩
theorem ascOf_snoc (us : List Int) (u : Int) : ascOf (us ++ [u]) = putI (ascOf us) u := by
  unfold ascOf; rw [List.foldl_append]; rfl
theorem ascOf_le (us : List Int) : (ascOf us).length ≤ us.length := by
  have key : ∀ (us xs : List Int), (us.foldl putI xs).length ≤ us.length + xs.length := by
    intro us
    induction us with
    | nil => intro xs; simp
    | cons u us ih =>
      intro xs
      rw [List.foldl_cons]
      have h1 := ih (putI xs u)
      have h2 : (putI xs u).length ≤ xs.length + 1 := by
        unfold putI
        split
        · omega
        · simp only [List.length_append, List.length_take, List.length_drop, List.length_singleton]
          have := cutI_le u xs xs.length
          omega
      rw [List.length_cons]
      omega
  simpa [ascOf] using key us []

theorem bang_at {zs : List Int} {j : Nat} (h : j < zs.length) : zs.toArray[j]! = zs[j] := by
  rw [getElem!_pos _ j (by simpa using h)]; simp

/-- A compaction of an ascending list: no number twice, and the same numbers. -/
theorem compact_asc {zs : List Int} (h : zs.Pairwise (· ≤ ·)) : Asc (Lib.compact zs) ∧ ∀ x, x ∈ Lib.compact zs ↔ x ∈ zs := by
  have key : ∀ m, m ≤ zs.length → Asc (Lib.compactUpTo zs.toArray m) ∧ (∀ x, x ∈ Lib.compactUpTo zs.toArray m ↔ x ∈ zs.take m) ∧ ∀ x ∈ Lib.compactUpTo zs.toArray m, ∀ (_ : 0 < m) (_ : m - 1 < zs.length), x ≤ zs[m - 1] := by
    intro m
    induction m with
    | zero => intro _; exact ⟨List.Pairwise.nil, by simp [Lib.compactUpTo], by simp [Lib.compactUpTo]⟩
    | succ m ih =>
      intro hm
      obtain ⟨i1, i2, i3⟩ := ih (by omega)
      rw [Lib.compactUpTo_succ, List.take_succ_eq_append_getElem (by omega)]
      have hle : ∀ x ∈ Lib.compactUpTo zs.toArray m, x ≤ zs[m] := by
        intro x hx
        rcases Nat.eq_zero_or_pos m with rfl | h0
        · simp [Lib.compactUpTo] at hx
        · have := i3 x hx h0 (by omega)
          have := List.pairwise_iff_getElem.1 h (m - 1) m (by omega) (by omega) (by omega)
          omega
      cases hk : Lib.keeps zs.toArray m with
      | true =>
        rw [if_pos rfl, bang_at (by omega)]
        have hlt : ∀ x ∈ Lib.compactUpTo zs.toArray m, x < zs[m] := by
          intro x hx
          rcases Nat.eq_zero_or_pos m with rfl | h0
          · simp [Lib.compactUpTo] at hx
          · have h1 := i3 x hx h0 (by omega)
            have h2 := List.pairwise_iff_getElem.1 h (m - 1) m (by omega) (by omega) (by omega)
            have h3 : zs[m] ≠ zs[m - 1] := by
              unfold Lib.keeps at hk
              rw [decide_eq_true_eq, bang_at (by omega), bang_at (by omega)] at hk
              rcases hk with h | h
              · omega
              · exact h
            omega
        refine ⟨List.pairwise_append.2 ⟨i1, by simp, fun a ha b hb => ?_⟩, fun x => ?_, fun x hx _ _ => ?_⟩
        · rw [List.mem_singleton] at hb
          subst hb
          exact hlt a ha
        · rw [List.mem_append, List.mem_append, i2]
        · simp only [Nat.add_sub_cancel]
          rcases List.mem_append.1 hx with h1 | h1
          · exact hle x h1
          · rw [List.mem_singleton] at h1
            omega
      | false =>
        have h0 : 0 < m := by
          rcases Nat.eq_zero_or_pos m with rfl | h0
          · simp [Lib.keeps] at hk
          · exact h0
        have h3 : zs[m] = zs[m - 1] := by
          unfold Lib.keeps at hk
          rw [decide_eq_false_iff_not, bang_at (by omega), bang_at (by omega)] at hk
          rcases Classical.em (zs[m] = zs[m - 1]) with h | h
          · exact h
          · exact absurd (.inr h) hk
        simp only [Bool.false_eq_true, if_false, List.append_nil]
        refine ⟨i1, fun x => ?_, fun x hx _ _ => by simp only [Nat.add_sub_cancel]; exact hle x hx⟩
        rw [List.mem_append, i2]
        constructor
        · exact .inl
        · rintro (h1 | h1)
          · exact h1
          · rw [List.mem_singleton] at h1
            subst h1
            rw [h3, List.mem_take_iff_getElem]
            exact ⟨m - 1, by omega, rfl⟩
  have k := key zs.length (Nat.le_refl _)
  exact ⟨k.1, fun x => by have := k.2.1 x; rwa [List.take_length] at this⟩

/-- What a sort and a compaction make is what the insertions make. -/
theorem sort_compact (us : List Int) : Lib.compact (us.mergeSort fun x y => decide (x ≤ y)) = ascOf us := by
  have hp : (us.mergeSort fun x y => decide (x ≤ y)).Pairwise (· ≤ ·) := by
    have := List.pairwise_mergeSort (le := fun x y : Int => decide (x ≤ y)) (fun a b c h1 h2 => by simp at *; omega) (fun a b => by simp; omega) us
    exact this.imp (fun h => by simpa using h)
  have h1 := compact_asc hp
  have h2 := ascOf_asc us
  exact asc_ext h1.1 h2.1 fun x => by rw [h1.2, h2.2]; exact (List.mergeSort_perm us _).mem_iff

end Go.Proofs.Ytmiopbpahkgmbaa
