/- The text of a number, digit by digit, as plain mathematics. -/
import Derived.Test.YtceicbncnhmkoaaDoorBytes
import Derived.Lib.ItoaMem
import Derived.Lib.ItoaLen
namespace Go.Proofs.YtceicbncnhmkoaaDoor
open Go.RowKit Go

/-- The digits of m, none for 0. -/
def digs (m : Nat) : List UInt8 := if m = 0 then [] else Lib.decDigits m

theorem digs_step (m : Nat) (h : 0 < m) : digs m = digs (m / 10) ++ [UInt8.ofNat (48 + m % 10)] := by
  unfold digs
  rw [if_neg (by omega), Lib.decDigits]
  by_cases h1 : m < 10
  · rw [dif_pos h1, if_pos (by omega), show m % 10 = m from by omega]; rfl
  · rw [dif_neg h1, if_neg (by omega)]

/-- The text that the loop has gathered. -/
def FmtRel (N : Nat) (m : Nat) (s : ByteArray) : Prop := digs N = digs m ++ s.data.toList

theorem fig_u8 (m : Nat) : strOfNums [figOf ((m : Int) % 10)] = ⟨#[UInt8.ofNat (48 + m % 10)]⟩ := by
  have : figOf ((m : Int) % 10) = ((48 + m % 10 : Nat) : Int) := by unfold figOf; rw [if_pos (by omega)]; omega
  rw [this]
  unfold strOfNums
  simp only [List.map_cons, List.map_nil, Int.toNat_natCast]

theorem fmt_rel {W w1 : World} {n m : Nat} {s : ByteArray} (h : 0 < m) (hm : m ≤ n) (hf : FmtRel n m s) (hb : Below W.heap.size W w1) :
    ∃ (j : Nat) (t : ByteArray), j ≤ n ∧ Value.int .i64 ((m : Int) / 10) = .int .i64 j ∧ Value.string (strOfNums [figOf ((m : Int) % 10)] ++ s) = .string t ∧ FmtRel n j t ∧ Below W.heap.size W w1 := by
  refine ⟨m / 10, _, by omega, by go_num, rfl, ?_, hb⟩
  rw [fig_u8]
  unfold FmtRel at *
  rw [hf, digs_step m h]
  simp

theorem fmt_size (n : Nat) {m : Nat} {s : ByteArray} (h0 : 0 < n) (h1 : n ≤ 9223372036854775808) (hf : FmtRel n m s) : s.size ≤ 21 := by
  have hl : (digs n).length ≤ 21 := by
    unfold digs
    rw [if_neg (by omega)]
    have := Lib.itoa_length_le (-(n : Int)) (by omega) (by omega)
    rw [Lib.itoa_neg n h0] at this
    simp at this
    omega
  unfold FmtRel at hf
  rw [hf] at hl
  have : s.data.toList.length = s.size := by simp
  simp at hl
  omega

theorem ret_str {a b : ByteArray} (h : a = b) : Ending.returned (.string a) = .returned (.string b) := by rw [h]
theorem bytes_ext {a b : ByteArray} (h : a.data.toList = b.data.toList) : a = b := by
  cases a; cases b; simp only [ByteArray.mk.injEq]; exact Array.ext' h
theorem fmt_end0 (n : Nat) {s : ByteArray} (h : 0 < n) (hf : FmtRel n 0 s) : s = ⟨(Lib.itoa n).toArray⟩ := by
  apply bytes_ext
  unfold FmtRel digs at hf
  rw [if_neg (by omega), if_pos rfl] at hf
  rw [Lib.itoa_nonneg, hf]; simp

theorem fmt_end1 (n : Nat) {s : ByteArray} (h : 0 < n) (hf : FmtRel n 0 s) : (⟨#[45]⟩ : ByteArray) ++ s = ⟨(Lib.itoa (-(n : Int))).toArray⟩ := by
  apply bytes_ext
  unfold FmtRel digs at hf
  rw [if_neg (by omega), if_pos rfl] at hf
  rw [Lib.itoa_neg n h, hf]; simp

theorem fmt_rel_neg {W w1 : World} {n m : Nat} {s : ByteArray} (h : 0 < m) (hm : m ≤ n) (hf : FmtRel n m s) (hb : Below W.heap.size W w1) :
    ∃ (j : Nat) (t : ByteArray), j ≤ n ∧ Value.int .i64 (-((m : Int) / 10)) = .int .i64 (-(j : Int)) ∧ Value.string (strOfNums [figOf ((m : Int) % 10)] ++ s) = .string t ∧ FmtRel n j t ∧ Below W.heap.size W w1 := by
  obtain ⟨j, t, h1, _, h3, h4, h5⟩ := fmt_rel h hm hf hb
  cases h3
  refine ⟨m / 10, _, by omega, by congr 1, rfl, ?_, h5⟩
  have := (fmt_rel h hm hf hb)
  rw [fig_u8]
  unfold FmtRel at *
  rw [hf, digs_step m h]
  simp

end Go.Proofs.YtceicbncnhmkoaaDoor
