/- The line of an instruction, as plain mathematics. -/
import Derived.Test.YtceicbncnhmkoaaDoorForms
import Derived.Test.YtceicbncnhmkoaaDoorFields
import Derived.Lib.Join
import Derived.Lib.ItoaLen
namespace Go.Proofs.YtceicbncnhmkoaaDoor
open Go.RowKit Go

def figs (n : Int) : ByteArray := ⟨(Lib.itoa n).toArray⟩
/-- The field with a letter. -/
def fld (l : UInt8) (a b c : Int) : Int := if l = 65 then a else if l = 66 then b else c
def wordsOf (nm : ByteArray) (ls : List UInt8) (a b c : Int) : List ByteArray := nm :: ls.map fun l => figs (fld l a b c)
def joinT (xs : List ByteArray) : ByteArray := ⟨(Lib.join (xs.map (·.data.toList)) [32]).toArray⟩
def lineOf (k : Nat) (a b c : Int) : ByteArray := joinT (wordsOf (opN k) (ltrs k).data.toList a b c)
/-- The text of an instruction, nothing where it is not valid. -/
def insText (o a b c : Int) : ByteArray := if insOk o a b c 32 = true then lineOf o.toNat a b c else ⟨#[]⟩

def smallF (n : Int) : Prop := 0 ≤ n ∧ n ≤ 65535
theorem zB_iff {n : Int} : zB n = true ↔ n = 0 := by unfold zB; simp
theorem ok_small {o a b c s : Int} (h : insOk o a b c s = true) : inO o 0 16 = true ∧ smallF a ∧ smallF b ∧ smallF c := by
  unfold insOk at h
  split at h
  · rename_i hs
    have h32 := inO_iff.1 hs.1
    simp only [Bool.and_eq_true] at h
    obtain ⟨⟨h1, h2⟩, h3⟩ := h
    refine ⟨hs.2, ?_, ?_, ?_⟩
    · unfold chA at h1
      unfold smallF
      split at h1
      · have := zB_iff.1 h1; omega
      · have := inO_iff.1 h1; omega
    · unfold chB at h2
      unfold smallF
      split at h2
      · have := isW_iff.1 h2; omega
      · split at h2
        · have := inO_iff.1 h2; omega
        · split at h2
          · have := zB_iff.1 h2; omega
          · have := inO_iff.1 h2; omega
    · unfold chC at h3
      unfold smallF
      split at h3
      · have := inO_iff.1 h3; omega
      · have := zB_iff.1 h3; omega
  · cases h

theorem fld_small {l : UInt8} {a b c : Int} (ha : smallF a) (hb : smallF b) (hc : smallF c) : smallF (fld l a b c) := by
  unfold fld; split
  · exact ha
  · split
    · exact hb
    · exact hc
theorem figs_size {n : Int} (h : smallF n) : (figs n).size ≤ 21 := by
  obtain ⟨m, rfl⟩ := Int.eq_ofNat_of_zero_le h.1
  have h2 := h.2
  have hl := Lib.itoa_length_le (m : Int) (by omega) (by omega)
  have : (figs m).size = (Lib.itoa m).length := by show (Lib.itoa m).toArray.size = _; simp
  omega

theorem ltrs_ok : ∀ k : Fin 17, (ltrs k.val).size ≤ 3 ∧ (opN k.val).size ≤ 7 ∧ (ltrs k.val).data.toList.all (fun x => x == 65 || x == 66 || x == 67) = true := by decide +kernel
theorem ltr_at {k : Nat} (hk : k < 17) (j : Nat) (hj : j < (ltrs k).size) : ((ltrs k)[j]'hj = 65 ∨ (ltrs k)[j]'hj = 66 ∨ (ltrs k)[j]'hj = 67) := by
  have h := (ltrs_ok ⟨k, hk⟩).2.2
  rw [List.all_eq_true] at h
  have := h ((ltrs k)[j]'hj) (by
    show (ltrs k).data[j] ∈ (ltrs k).data.toList
    simp)
  simpa [or_assoc] using this

theorem joinTail_len (r : List (List UInt8)) (h : ∀ x ∈ r, x.length ≤ 30) : (Lib.joinTail [32] r).length ≤ r.length * 31 := by
  induction r with
  | nil => simp [Lib.joinTail]
  | cons x r ih =>
    have h1 := ih (fun y hy => h y (List.mem_cons_of_mem _ hy))
    have h2 := h x (by simp)
    unfold Lib.joinTail at *
    simp only [List.map_cons, List.flatten_cons, List.length_append, List.length_cons, List.length_nil]
    omega
theorem join_len (xs : List ByteArray) (h : ∀ x ∈ xs, x.size ≤ 30) : (Lib.join (xs.map (·.data.toList)) [32]).length ≤ xs.length * 31 := by
  cases xs with
  | nil => simp [Lib.join_nil]
  | cons x r =>
    rw [List.map_cons, Lib.join_cons, List.length_append]
    have h1 := joinTail_len (r.map (·.data.toList)) (by
      intro y hy
      obtain ⟨z, hz, rfl⟩ := List.mem_map.1 hy
      have := h z (List.mem_cons_of_mem _ hz)
      simpa using this)
    have h2 := h x (by simp)
    have h3 : x.data.toList.length = x.size := by simp
    simp only [List.length_map, List.length_cons] at *
    omega
theorem words_small {k : Nat} (hk : k < 17) {a b c : Int} (ha : smallF a) (hb : smallF b) (hc : smallF c) : (∀ x ∈ wordsOf (opN k) (ltrs k).data.toList a b c, x.size ≤ 30) ∧ (wordsOf (opN k) (ltrs k).data.toList a b c).length ≤ 4 := by
  have h0 := ltrs_ok ⟨k, hk⟩
  simp only at h0
  refine ⟨fun x hx => ?_, ?_⟩
  · unfold wordsOf at hx
    rcases List.mem_cons.1 hx with rfl | hx
    · omega
    · obtain ⟨l, _, rfl⟩ := List.mem_map.1 hx
      have := figs_size (fld_small (l := l) ha hb hc)
      omega
  · unfold wordsOf
    have : (ltrs k).data.toList.length = (ltrs k).size := by simp
    simp only [List.length_cons, List.length_map]
    omega
theorem line_size {k : Nat} (hk : k < 17) {a b c : Int} (ha : smallF a) (hb : smallF b) (hc : smallF c) : (lineOf k a b c).size ≤ 124 := by
  obtain ⟨h1, h2⟩ := words_small hk ha hb hc
  have h3 := join_len _ h1
  have : (lineOf k a b c).size = (Lib.join ((wordsOf (opN k) (ltrs k).data.toList a b c).map (·.data.toList)) [32]).length := by
    show (List.toArray _).size = _; simp
  omega

/-- The words so far, behind j letters. -/
theorem words_take (nm s : ByteArray) (a b c : Int) (j : Nat) (hj : j < s.size) : wordsOf nm (s.data.toList.take (j + 1)) a b c = wordsOf nm (s.data.toList.take j) a b c ++ [figs (fld (s[j]'hj) a b c)] := by
  unfold wordsOf
  rw [List.take_succ_eq_append_getElem (by simpa using hj), List.map_append, List.cons_append]
  rfl
theorem words_all (nm s : ByteArray) (a b c : Int) : wordsOf nm (s.data.toList.take s.size) a b c = wordsOf nm s.data.toList a b c := by
  rw [List.take_of_length_le (by simp)]

end Go.Proofs.YtceicbncnhmkoaaDoor
