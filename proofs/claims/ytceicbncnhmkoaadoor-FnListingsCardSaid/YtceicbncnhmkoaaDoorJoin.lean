/- The fields of fields that are joined: plain mathematics. -/
import Derived.Test.YtceicbncnhmkoaaDoorFields
import Derived.Test.YtceicbncnhmkoaaDoorFmtRel
import Derived.Lib.SmallJoins
namespace Go.Proofs.YtceicbncnhmkoaaDoor
open Go.RowKit Go

def sp : ByteArray := ⟨#[32]⟩

/-- The fields, each followed by a space. -/
def joined (xs : List ByteArray) : ByteArray := xs.foldl (fun s f => s ++ f ++ sp) ByteArray.empty

theorem joined_snoc (xs : List ByteArray) (f : ByteArray) : joined (xs ++ [f]) = joined xs ++ f ++ sp := by
  unfold joined; rw [List.foldl_append]; rfl

theorem app_data (a b : ByteArray) : (a ++ b).data.toList = a.data.toList ++ b.data.toList := by simp
theorem app_size (a b : ByteArray) : (a ++ b).size = a.size + b.size := ByteArray.size_append
theorem len_data (a : ByteArray) : a.data.toList.length = a.size := by simp

theorem byteAt_left (s t : ByteArray) (k : Nat) (h : k < s.size) : byteAt (s ++ t) k = byteAt s k := by
  unfold byteAt
  rw [app_data, List.getD_eq_getElem?_getD, List.getD_eq_getElem?_getD, List.getElem?_append_left (by rw [len_data]; exact h)]
theorem byteAt_right (s t : ByteArray) (j : Nat) : byteAt (s ++ t) (s.size + j) = byteAt t j := by
  unfold byteAt
  rw [app_data, List.getD_eq_getElem?_getD, List.getD_eq_getElem?_getD, List.getElem?_append_right (by rw [len_data]; omega), len_data, show s.size + j - s.size = j from by omega]

theorem extract_left (s t : ByteArray) (b k : Nat) (h : k ≤ s.size) : (s ++ t).extract b k = s.extract b k := by
  apply bytes_ext
  have hl := len_data s
  rw [Lib.extract_data, Lib.extract_data, app_data, List.drop_append, List.take_append]
  rcases Nat.lt_or_ge b k with hb | hb
  · rw [show k - b - (s.data.toList.drop b).length = 0 from by rw [List.length_drop, hl]; omega, List.take_zero, List.append_nil]
  · rw [show k - b = 0 from by omega]; simp

theorem scan_left (s t : ByteArray) (k : Nat) (h : k ≤ s.size) : scan (s ++ t) k = scan s k := by
  induction k with
  | zero => rfl
  | succ k ih =>
    have ih := ih (by omega)
    by_cases hb : byteAt s k = 32
    · rw [scan_space hb, scan_space (by rw [byteAt_left s t k (by omega)]; exact hb), ih, extract_left s t _ _ (by omega)]
    · rw [scan_stay hb, scan_stay (by rw [byteAt_left s t k (by omega)]; exact hb), ih]

theorem scan_over (s : ByteArray) (a n : Nat) (h : ∀ j, j < n → byteAt s (a + j) ≠ 32) : scan s (a + n) = scan s a := by
  induction n with
  | zero => rfl
  | succ n ih => rw [← Nat.add_assoc, scan_stay (h n (by omega)), ih (fun j hj => h j (by omega))]

/-- A field as it must be. -/
def goodField (f : ByteArray) : Prop := 0 < f.size ∧ f.size ≤ 600 ∧ ∀ j, j < f.size → byteAt f j ≠ 32 ∧ okByte (byteAt f j)

theorem extract_mid (s f t : ByteArray) : (s ++ f ++ t).extract s.size (s.size + f.size) = f := by
  apply bytes_ext
  have hl := len_data s
  have hf := len_data f
  rw [Lib.extract_data, app_data, app_data, List.append_assoc, List.drop_append_of_le_length (by omega), List.drop_of_length_le (by omega), List.nil_append, show s.size + f.size - s.size = f.data.toList.length from by omega, List.take_left]

theorem scan_joined (xs : List ByteArray) (h : ∀ f ∈ xs, goodField f) : scan (joined xs) (joined xs).size = (xs, (joined xs).size) := by
  induction xs using snoc_ind with
  | h0 => rfl
  | h1 xs f ih =>
    have ih := ih (fun g hg => h g (List.mem_append_left _ hg))
    obtain ⟨hf0, _, hf⟩ := h f (by simp)
    rw [joined_snoc]
    have hsz : (joined xs ++ f ++ sp).size = (joined xs).size + f.size + 1 := by rw [app_size, app_size]; rfl
    have h32 : byteAt (joined xs ++ f ++ sp) ((joined xs).size + f.size) = 32 := by
      have := byteAt_right (joined xs ++ f) sp 0
      rw [app_size, Nat.add_zero] at this
      rw [this]; rfl
    have hov : scan (joined xs ++ f ++ sp) ((joined xs).size + f.size) = (xs, (joined xs).size) := by
      rw [scan_over _ _ _ (fun j hj => by
        rw [byteAt_left _ _ _ (by rw [app_size]; omega), byteAt_right]; exact (hf j hj).1)]
      have : joined xs ++ f ++ sp = joined xs ++ (f ++ sp) := by apply bytes_ext; simp
      rw [this, scan_left _ _ _ (Nat.le_refl _), ih]
    rw [hsz, scan_space h32, hov]
    simp only
    rw [if_pos (by omega), extract_mid]

theorem all_joined (xs : List ByteArray) (h : ∀ f ∈ xs, goodField f) : allFields (joined xs) = xs := by
  unfold allFields
  rw [scan_joined xs h]
  simp

theorem ok_joined (xs : List ByteArray) (h : ∀ f ∈ xs, goodField f) : ∀ k, k < (joined xs).size → okByte (byteAt (joined xs) k) := by
  induction xs using snoc_ind with
  | h0 => intro k hk; simp [joined] at hk
  | h1 xs f ih =>
    have ih := ih (fun g hg => h g (List.mem_append_left _ hg))
    obtain ⟨_, _, hf⟩ := h f (by simp)
    rw [joined_snoc]
    intro k hk
    rcases Nat.lt_or_ge k (joined xs).size with h1 | h1
    · rw [byteAt_left _ _ _ (by rw [app_size]; omega), byteAt_left _ _ _ h1]; exact ih k h1
    · rcases Nat.lt_or_ge k ((joined xs).size + f.size) with h2 | h2
      · obtain ⟨j, rfl⟩ : ∃ j, k = (joined xs).size + j := ⟨k - (joined xs).size, by omega⟩
        rw [byteAt_left _ _ _ (by rw [app_size]; omega), byteAt_right]; exact (hf j (by omega)).2
      · have hsz : (joined xs ++ f ++ sp).size = (joined xs).size + f.size + 1 := by rw [app_size, app_size]; rfl
        obtain rfl : k = (joined xs).size + f.size := by omega
        have := byteAt_right (joined xs ++ f) sp 0
        rw [app_size, Nat.add_zero] at this
        rw [this]
        exact ⟨by decide, by decide⟩

theorem fields_joined {xs : List ByteArray} (h : ∀ f ∈ xs, goodField f) (hl : xs.length ≤ 24) (hs : (joined xs).size ≤ 600) : fieldsOf (joined xs) = some xs := by
  have := fields_some (s := joined xs) hs (ok_joined xs h) (by rw [all_joined xs h]; exact hl)
  rw [all_joined xs h] at this
  exact this

theorem joined_size (xs : List ByteArray) (h : ∀ f ∈ xs, goodField f) : (joined xs).size ≤ xs.length * 601 := by
  induction xs using snoc_ind with
  | h0 => simp [joined]
  | h1 xs f ih =>
    have ih := ih (fun g hg => h g (List.mem_append_left _ hg))
    obtain ⟨_, hf, _⟩ := h f (by simp)
    rw [joined_snoc, app_size, app_size, List.length_append]
    simp only [List.length_singleton]
    have : sp.size = 1 := rfl
    omega

theorem byteAt_extract (s : ByteArray) (b k j : Nat) (hj : b + j < k) : byteAt (s.extract b k) j = byteAt s (b + j) := by
  unfold byteAt
  rw [Lib.extract_data, List.getD_eq_getElem?_getD, List.getD_eq_getElem?_getD, List.getElem?_take_of_lt (by omega), List.getElem?_drop]

theorem good_extract (s : ByteArray) (hs : s.size ≤ 600) (hok : ∀ k, k < s.size → okByte (byteAt s k)) (b k : Nat) (hlt : b < k) (hk : k ≤ s.size) (hno : ∀ j, b ≤ j → j < k → byteAt s j ≠ 32) : goodField (s.extract b k) := by
  have hsz := extract_size s b k (by omega) hk
  refine ⟨by omega, by omega, fun j hj => ?_⟩
  rw [byteAt_extract s b k j (by omega)]
  exact ⟨hno _ (by omega) (by omega), hok _ (by omega)⟩

/-- What has been scanned: fields that are as they must be; and no space since the last one. -/
theorem scan_good (s : ByteArray) (hs : s.size ≤ 600) (hok : ∀ k, k < s.size → okByte (byteAt s k)) (k : Nat) (hk : k ≤ s.size) : (∀ f ∈ (scan s k).1, goodField f) ∧ ∀ j, (scan s k).2 ≤ j → j < k → byteAt s j ≠ 32 := by
  induction k with
  | zero => simp [scan]
  | succ k ih =>
    obtain ⟨i1, i2⟩ := ih (by omega)
    have hbd := (scan_bd s k).1
    by_cases hb : byteAt s k = 32
    · rw [scan_space hb]
      refine ⟨fun f hf => ?_, fun j h1 h2 => by simp only at h1; omega⟩
      rcases List.mem_append.1 hf with hf | hf
      · exact i1 f hf
      · split at hf
        · rename_i hlt
          rw [List.mem_singleton] at hf
          subst hf
          exact good_extract s hs hok _ _ hlt (by omega) i2
        · cases hf
    · rw [scan_stay hb]
      refine ⟨i1, fun j h1 h2 => ?_⟩
      rcases Nat.lt_or_ge j k with h | h
      · exact i2 j h1 h
      · obtain rfl : j = k := by omega
        exact hb

theorem fields_good {s : ByteArray} {xs : List ByteArray} (h : fieldsOf s = some xs) : (∀ f ∈ xs, goodField f) ∧ xs.length ≤ 24 := by
  unfold fieldsOf at h
  split at h
  · rename_i hh
    obtain ⟨h1, h2, h3⟩ := hh
    cases h
    refine ⟨fun f hf => ?_, h3⟩
    unfold allFields at hf
    obtain ⟨g1, g2⟩ := scan_good s h1 h2 s.size (Nat.le_refl _)
    rcases List.mem_append.1 hf with hf | hf
    · exact g1 f hf
    · split at hf
      · rename_i hlt
        rw [List.mem_singleton] at hf
        subst hf
        exact good_extract s h1 h2 _ _ hlt (Nat.le_refl _) g2
      · cases hf
  · cases h

end Go.Proofs.YtceicbncnhmkoaaDoor
