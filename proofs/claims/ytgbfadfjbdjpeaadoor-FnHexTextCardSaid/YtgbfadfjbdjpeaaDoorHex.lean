/- EncodeHex: what both compute. -/
import Derived.Test.YtgbfadfjbdjpeaaDoorBytes
namespace Go.Proofs.YtgbfadfjbdjpeaaDoor
open Go.RowKit Go

def hexL (l : List UInt8) : List Int := l.flatMap fun b => [figOf ((b.toNat : Int) / 16), figOf ((b.toNat : Int) % 16)]

theorem hexL_take (s : ByteArray) (k : Nat) (h : k < s.size) : hexL (s.data.toList.take (k + 1)) = hexL (s.data.toList.take k) ++ [figOf ((s[k].toNat : Int) / 16), figOf ((s[k].toNat : Int) % 16)] := by
  have e : s.data.toList.take (k + 1) = s.data.toList.take k ++ [s[k]] := by
    rw [List.take_succ_eq_append_getElem (by simpa using h)]; rfl
  rw [e]; simp [hexL]
theorem hexL_len (l : List UInt8) : (hexL l).length = 2 * l.length := by
  induction l with
  | nil => rfl
  | cons b l ih => simp only [hexL, List.flatMap_cons, List.length_append, List.length_cons, List.length_nil] at *; omega
theorem hexL_all (s : ByteArray) : s.data.toList.take s.size = s.data.toList := List.take_of_length_le (by simp)

/-- The relation of the loop, at the round's end. -/
theorem hex_rel {W w1 : World} {v : Value} {s : ByteArray} {k : Nat} (h : k < s.size)
    (hown : w1.ownsRow W.heap.size 5 1 v (2 * k + 2) ((hexL (s.data.toList.take k)).map (.int .u8) ++ [.int .u8 (figOf ((s[k].toNat : Int) / 16)), .int .u8 (figOf ((s[k].toNat : Int) % 16))])) (hb : Below W.heap.size W w1) :
    ∃ j : Nat, j ≤ s.size ∧ Value.int .i64 ((k : Int) + 1) = .int .i64 j ∧ w1.ownsRow W.heap.size 5 1 v (2 * j) ((hexL (s.data.toList.take j)).map (.int .u8)) ∧ Below W.heap.size W w1 :=
  ⟨k + 1, h, by go_num, by rw [hexL_take s k h, List.map_append, show 2 * (k + 1) = 2 * k + 2 from by omega]; exact hown, hb⟩

end Go.Proofs.YtgbfadfjbdjpeaaDoor
