/- The instruction with given words, as plain mathematics. -/
import Derived.Test.YtceicbncnhmkoaaDoorLines
import Derived.Test.YtceicbncnhmkoaaDoorNumText
import Derived.Test.YtceicbncnhmkoaaDoorParse
import Derived.Test.YtceicbncnhmkoaaDoorProgs
namespace Go.Proofs.YtceicbncnhmkoaaDoor
open Go.RowKit Go

/-- Three fields. -/
abbrev T3 := Int × Int × Int
/-- The field with a letter set. -/
def putL (l : UInt8) (n : Int) (t : T3) : T3 := if l = 65 then (n, t.2.1, t.2.2) else if l = 66 then (t.1, n, t.2.2) else (t.1, t.2.1, n)
/-- The fields with these letters, read from these words. -/
def fillL : List UInt8 → List ByteArray → T3 → Option T3
  | [], [], t => some t
  | l :: ls, x :: xs, t => match puOf x.data.toList with | none => none | some n => fillL ls xs (putL l n t)
  | _, _, _ => none

theorem fillL_len : ∀ {ls : List UInt8} {xs : List ByteArray} {t : T3}, ls.length ≠ xs.length → fillL ls xs t = none
  | [], [], _, h => absurd rfl h
  | [], _ :: _, _, _ => rfl
  | _ :: _, [], _, _ => rfl
  | l :: ls, x :: xs, t, h => by
    unfold fillL
    cases puOf x.data.toList with
    | none => rfl
    | some n => exact fillL_len (by simpa using h)

/-- The instruction of operation k with these fields, if it is valid. -/
def okIns (k : Nat) (t : T3) : Option I4 := if insOk k t.1 t.2.1 t.2.2 32 = true then some ⟨k, t.1, t.2.1, t.2.2⟩ else none
/-- The instruction with these words. -/
def parseW : List ByteArray → Option I4
  | [] => none
  | x :: xs => match formIx x with
    | none => none
    | some k => match fillL (ltrs k).data.toList xs (0, 0, 0) with
      | none => none
      | some t => okIns k t
/-- The instruction with this line. -/
noncomputable def parseL (s : ByteArray) : Option I4 := match fieldsOf s with | none => none | some ws => parseW ws

def insV (i : I4) : Value := .agg #[.int .i64 i.o, .int .i64 i.a, .int .i64 i.b, .int .i64 i.c]
def parV : Option I4 → Value
  | none => .tuple #[.agg #[.int .i64 0, .int .i64 0, .int .i64 0, .int .i64 0], .bool false]
  | some i => .tuple #[insV i, .bool true]

theorem parseW_op {x : ByteArray} {xs : List ByteArray} {k : Nat} (h : formIx x = some k) : parseW (x :: xs) = match fillL (ltrs k).data.toList xs (0, 0, 0) with | none => none | some t => okIns k t := by
  simp only [parseW, h]
theorem parseW_none {x : ByteArray} {xs : List ByteArray} (h : formIx x = none) : parseW (x :: xs) = none := by
  simp only [parseW, h]

theorem drop_at {α : Type} (xs : List α) (j : Nat) (h : j < xs.length) : xs.drop j = xs[j] :: xs.drop (j + 1) := (List.getElem_cons_drop h).symm

theorem fill_step {L : List UInt8} {xs : List ByteArray} {pos : Nat} (h1 : pos < L.length) (h2 : pos < xs.length) (t : T3) :
    fillL (L.drop pos) (xs.drop pos) t = match puOf (xs[pos]).data.toList with | none => none | some n => fillL (L.drop (pos + 1)) (xs.drop (pos + 1)) (putL (L[pos]) n t) := by
  rw [drop_at L pos h1, drop_at xs pos h2]
  simp only [fillL]
theorem fill_end {L : List UInt8} {xs : List ByteArray} {pos : Nat} (h1 : pos = L.length) (h2 : pos = xs.length) (t : T3) : fillL (L.drop pos) (xs.drop pos) t = some t := by
  rw [List.drop_of_length_le (by omega), List.drop_of_length_le (by omega)]
  rfl

/-- A row of words that can be read. -/
def WordRow (w : World) (na : Option Addr) (xs : List ByteArray) : Prop := ∀ j (h : j < xs.length), ∃ g o, na = some ⟨g, o, none⟩ ∧ g < w.heap.size ∧ w.cell? ⟨g, o + j, none⟩ = some (.string xs[j])
theorem WordRow.below {w w' : World} {na : Option Addr} {xs : List ByteArray} (h : WordRow w na xs) (hb : Below w.heap.size w w') : WordRow w' na xs := fun j hj => by
  obtain ⟨g, o, h1, h2, h3⟩ := h j hj
  exact ⟨g, o, h1, Nat.lt_of_lt_of_le h2 hb.size, by rw [hb.cell h2]; exact h3⟩

end Go.Proofs.YtceicbncnhmkoaaDoor
