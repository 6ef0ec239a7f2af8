/- DecodeHex: what both compute. -/
import Derived.Test.YtgbfadfjbdjpeaaDoorBytes
namespace Go.Proofs.YtgbfadfjbdjpeaaDoor
open Go.RowKit Go

def valOf (c : Int) : Int := if 48 ≤ c ∧ c ≤ 57 then c - 48 else if 97 ≤ c ∧ c ≤ 102 then c - 87 else -1

theorem valOf_bd (c : Int) : -1 ≤ valOf c ∧ valOf c ≤ 15 := by unfold valOf; repeat' split
                                                               all_goals omega

/-- What the text l decodes to, two letters at a time. -/
def dec : List UInt8 → Option (List Int)
  | [] => some []
  | [_] => none
  | a :: b :: t => if valOf a.toNat < 0 ∨ valOf b.toNat < 0 then none else (dec t).map (fun r => (16 * valOf a.toNat + valOf b.toNat) :: r)

theorem drop_two (s : ByteArray) (k : Nat) (h : 2 * k + 1 < s.size) : s.data.toList.drop (2 * k) = s[2 * k]'(by omega) :: s[2 * k + 1] :: s.data.toList.drop (2 * (k + 1)) := by
  have hl : s.data.toList.length = s.size := by simp
  rw [List.drop_eq_getElem_cons (by omega), List.drop_eq_getElem_cons (by omega)]
  rfl

theorem dec_bad (s : ByteArray) (k : Nat) (h : 2 * k + 1 < s.size) (acc : List Int) (hd : dec s.data.toList = (dec (s.data.toList.drop (2 * k))).map (acc ++ ·)) (hv : valOf (s[2 * k]'(by omega)).toNat < 0 ∨ valOf s[2 * k + 1].toNat < 0) : dec s.data.toList = none := by
  rw [hd, drop_two s k h, dec, if_pos hv]; rfl
theorem dec_good (s : ByteArray) (k : Nat) (h : 2 * k + 1 < s.size) (acc : List Int) (hd : dec s.data.toList = (dec (s.data.toList.drop (2 * k))).map (acc ++ ·)) (hv : ¬ (valOf (s[2 * k]'(by omega)).toNat < 0 ∨ valOf s[2 * k + 1].toNat < 0)) :
    dec s.data.toList = (dec (s.data.toList.drop (2 * (k + 1)))).map ((acc ++ [16 * valOf (s[2 * k]'(by omega)).toNat + valOf s[2 * k + 1].toNat]) ++ ·) := by
  rw [hd, drop_two s k h, dec, if_neg hv]
  cases dec (s.data.toList.drop (2 * (k + 1))) <;> simp
theorem dec_end (s : ByteArray) (k : Nat) (h : 2 * k = s.size) (acc : List Int) (hd : dec s.data.toList = (dec (s.data.toList.drop (2 * k))).map (acc ++ ·)) : dec s.data.toList = some acc := by
  rw [hd, h, List.drop_of_length_le (by simp)]; simp [dec]

/-- The answer of DecodeHex. -/
def decAns : Option (List Int) → Value
  | some xs => .tuple #[.string (strOfNums xs), .bool true]
  | none => .tuple #[.string ⟨#[]⟩, .bool false]

/-- The relation of both loops. -/
def DecRel (W : World) (s : ByteArray) (v i : Value) (wr : World) : Prop :=
  ∃ (k : Nat) (acc : List Int), 2 * k ≤ s.size ∧ i = .int .i64 (2 * k : Nat) ∧ wr.ownsRow W.heap.size 5 1 v k (acc.map (.int .u8)) ∧ Below W.heap.size W wr ∧ dec s.data.toList = (dec (s.data.toList.drop (2 * k))).map (acc ++ ·)

theorem dec_rel {W w1 : World} {s : ByteArray} {v : Value} {k : Nat} {acc : List Int} {x : Int} (h : 2 * k + 2 ≤ s.size)
    (hown : w1.ownsRow W.heap.size 5 1 v (k + 1) (acc.map (.int .u8) ++ [.int .u8 x])) (hb : Below W.heap.size W w1) (hd : dec s.data.toList = (dec (s.data.toList.drop (2 * (k + 1)))).map ((acc ++ [x]) ++ ·)) :
    DecRel W s v (.int .i64 (2 * (k : Int) + 2)) w1 :=
  ⟨k + 1, acc ++ [x], by omega, by go_num, by rw [List.map_append]; exact hown, hb, hd⟩

end Go.Proofs.YtgbfadfjbdjpeaaDoor
