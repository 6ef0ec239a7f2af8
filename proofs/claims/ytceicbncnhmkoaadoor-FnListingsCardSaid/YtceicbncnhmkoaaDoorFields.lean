/- The fields of a line, as plain mathematics; rows of strings that a call owns. -/
import Derived.Test.YtceicbncnhmkoaaDoorBytes
namespace Go.Proofs.YtceicbncnhmkoaaDoor
open Go.RowKit Go

/-- Byte k of s. -/
def byteAt (s : ByteArray) (k : Nat) : Nat := (s.data.toList.getD k 0).toNat
theorem byteAt_eq (s : ByteArray) (k : Nat) (h : k < s.size) : s[k].toNat = byteAt s k := by
  unfold byteAt
  rw [List.getD_eq_getElem?_getD, List.getElem?_eq_getElem (by simpa using h)]
  rfl

def okByte (b : Nat) : Prop := 32 ≤ b ∧ b ≤ 126

/-- The fields that end before byte k, and where the next one begins. -/
def scan (s : ByteArray) : Nat → List ByteArray × Nat
  | 0 => ([], 0)
  | k + 1 => if byteAt s k = 32 then ((scan s k).1 ++ (if (scan s k).2 < k then [s.extract (scan s k).2 k] else []), k + 1) else scan s k

theorem scan_bd (s : ByteArray) (k : Nat) : (scan s k).2 ≤ k ∧ (scan s k).1.length ≤ k := by
  induction k with
  | zero => simp [scan]
  | succ k ih =>
    simp only [scan]
    split
    · refine ⟨Nat.le_refl _, ?_⟩
      simp only [List.length_append]
      split <;> simp <;> omega
    · omega

/-- All fields of s. -/
def allFields (s : ByteArray) : List ByteArray := (scan s s.size).1 ++ (if (scan s s.size).2 < s.size then [s.extract (scan s s.size).2 s.size] else [])

open Classical in
/-- What SplitFields finds. -/
noncomputable def fieldsOf (s : ByteArray) : Option (List ByteArray) :=
  if s.size ≤ 600 ∧ (∀ k, k < s.size → okByte (byteAt s k)) ∧ (allFields s).length ≤ 24 then some (allFields s) else none

theorem fields_long {s : ByteArray} (h : 600 < s.size) : fieldsOf s = none := by
  unfold fieldsOf; rw [if_neg (fun hh => by omega)]
theorem fields_bad {s : ByteArray} {k : Nat} (h : k < s.size) (hb : ¬ okByte (byteAt s k)) : fieldsOf s = none := by
  unfold fieldsOf; rw [if_neg (fun hh => hb (hh.2.1 k h))]
theorem fields_many {s : ByteArray} (h : 24 < (allFields s).length) : fieldsOf s = none := by
  unfold fieldsOf; rw [if_neg (fun hh => by omega)]
theorem fields_some {s : ByteArray} (h1 : s.size ≤ 600) (h2 : ∀ k, k < s.size → okByte (byteAt s k)) (h3 : (allFields s).length ≤ 24) : fieldsOf s = some (allFields s) := by
  unfold fieldsOf; rw [if_pos ⟨h1, h2, h3⟩]

/-- A row of strings that the call owns. -/
def Texts (w : World) (base : Nat) (v : Value) (xs : List ByteArray) : Prop := w.ownsRow base 9 1 v xs.length (xs.map .string)

theorem Texts.form {w : World} {base : Nat} {v : Value} {xs : List ByteArray} (h : Texts w base v xs) : ∃ (a : Option Addr) (cap : Nat), v = .slice a xs.length cap := by
  rcases h.2 with ⟨h1, h2⟩ | ⟨g, cap, cur, h1, _⟩
  · exact ⟨none, 0, by rw [h1, h2]⟩
  · exact ⟨_, cap, h1⟩

/-- What a call of SplitFields leaves. -/
def SplitSaid (s : ByteArray) (w : World) (e : Ending) (w' : World) : Prop :=
  ∃ v : Value, e = .returned (.tuple #[v, .bool (fieldsOf s).isSome]) ∧ Texts w' w.heap.size v ((fieldsOf s).getD []) ∧ Below w.heap.size w w'

/-- The relation of both loops: k bytes have been seen, all of them fine; the fields so far; where the next one begins. -/
def SplitRel (s : ByteArray) (W : World) (v b i : Value) (wr : World) : Prop :=
  ∃ k : Nat, k ≤ s.size ∧ i = .int .i64 k ∧ b = .int .i64 ((scan s k).2 : Nat) ∧ (∀ j, j < k → okByte (byteAt s j)) ∧ Texts wr W.heap.size v (scan s k).1 ∧ Below W.heap.size W wr

theorem info_9 : (Tryd.prog.info? 9).map (fun i => (i.zero, i.size, i.bytes)) = some (some (.string ⟨#[]⟩), 1, 16) := by kernel_rfl

theorem grown_below {w w' : World} (h : Below w.heap.size w w') (row : Option Nat) : w.grownBy w' row := ⟨h.os, h.tape, h.output, h.size, fun k hk _ => h.block k hk⟩

theorem Texts.below {w w' : World} {base : Nat} {v : Value} {xs : List ByteArray} (h : Texts w base v xs) (hb : Below w.heap.size w w') : Texts w' base v xs :=
  World.ownsRow.kept h (grown_below hb none) (by cases hv : v.ownBlock <;> simp)
theorem Texts.alloc {w : World} {base : Nat} {v : Value} {xs : List ByteArray} (h : Texts w base v xs) (o : Obj) : Texts (w.alloc o) base v xs := World.ownsRow.alloc h o

theorem extract_size (s : ByteArray) (b k : Nat) (hb : b ≤ k) (hk : k ≤ s.size) : (s.extract b k).size = k - b := by
  rw [ByteArray.size_extract]; omega

theorem split_end_none {s : ByteArray} {w w' : World} {v : Value} (h : fieldsOf s = none) (ht : Texts w' w.heap.size v []) (hb : Below w.heap.size w w') : SplitSaid s w (.returned (.tuple #[v, .bool false])) w' := by
  refine ⟨v, ?_, ?_, hb⟩ <;> rw [h]
  · rfl
  · exact ht
theorem split_end_some {s : ByteArray} {w w' : World} {v : Value} (h : fieldsOf s = some (allFields s)) (ht : Texts w' w.heap.size v (allFields s)) (hb : Below w.heap.size w w') : SplitSaid s w (.returned (.tuple #[v, .bool true])) w' := by
  refine ⟨v, ?_, ?_, hb⟩ <;> rw [h]
  · rfl
  · exact ht

theorem scan_stay {s : ByteArray} {k : Nat} (h : byteAt s k ≠ 32) : scan s (k + 1) = scan s k := by simp [scan, h]
theorem scan_space {s : ByteArray} {k : Nat} (h : byteAt s k = 32) : scan s (k + 1) = ((scan s k).1 ++ (if (scan s k).2 < k then [s.extract (scan s k).2 k] else []), k + 1) := by simp [scan, h]
theorem ok_next {s : ByteArray} {k : Nat} (h : ∀ j, j < k → okByte (byteAt s j)) (hk : okByte (byteAt s k)) : ∀ j, j < k + 1 → okByte (byteAt s j) := fun j hj => by
  rcases Nat.lt_or_ge j k with h' | h'
  · exact h j h'
  · obtain rfl : j = k := by omega
    exact hk

end Go.Proofs.YtceicbncnhmkoaaDoor
