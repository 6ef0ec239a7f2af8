/- FormatInt of the model: the text is Lib.itoa's. -/
import Derived.Test.YtgbfadfjbdjpeaaDoorBytes
import Derived.Lib.ItoaMem
import Derived.Lib.ItoaLen
namespace Go.Proofs.YtgbfadfjbdjpeaaDoor
open Go.RowKit Go

/-- The digits of m, none for 0. -/
def digs (m : Nat) : List UInt8 := if m = 0 then [] else Lib.decDigits m

theorem digs_step (m : Nat) (h : 0 < m) : digs m = digs (m / 10) ++ [UInt8.ofNat (48 + m % 10)] := by
  unfold digs
  rw [if_neg (by omega), Lib.decDigits]
  by_cases h1 : m < 10
  · rw [dif_pos h1, if_pos (by omega), show m % 10 = m from by omega]; rfl
  · rw [dif_neg h1, if_neg (by omega)]

/-- The text that the loop has gathered. -/
def FmtRel (N : Nat) (m : Nat) (s : ByteArray) : Prop := digs N = digs m ++ s.data.toList

theorem fig_u8 (m : Nat) : strOfNums [figOf ((m : Int) % 10)] = ⟨#[UInt8.ofNat (48 + m % 10)]⟩ := by
  have : figOf ((m : Int) % 10) = ((48 + m % 10 : Nat) : Int) := by unfold figOf; rw [if_pos (by omega)]; omega
  rw [this]
  unfold strOfNums
  simp only [List.map_cons, List.map_nil, Int.toNat_natCast]

theorem fmt_rel {W w1 : World} {n m : Nat} {s : ByteArray} (h : 0 < m) (hm : m ≤ n) (hf : FmtRel n m s) (hb : Below W.heap.size W w1) :
    ∃ (j : Nat) (t : ByteArray), j ≤ n ∧ Value.int .i64 ((m : Int) / 10) = .int .i64 j ∧ Value.string (strOfNums [figOf ((m : Int) % 10)] ++ s) = .string t ∧ FmtRel n j t ∧ Below W.heap.size W w1 := by
  refine ⟨m / 10, _, by omega, by go_num, rfl, ?_, hb⟩
  rw [fig_u8]
  unfold FmtRel at *
  rw [hf, digs_step m h]
  simp

theorem fmt_size (n : Nat) {m : Nat} {s : ByteArray} (h0 : 0 < n) (h1 : n ≤ 9223372036854775808) (hf : FmtRel n m s) : s.size ≤ 21 := by
  have hl : (digs n).length ≤ 21 := by
    unfold digs
    rw [if_neg (by omega)]
    have := Lib.itoa_length_le (-(n : Int)) (by omega) (by omega)
    rw [Lib.itoa_neg n h0] at this
    simp at this
    omega
  unfold FmtRel at hf
  rw [hf] at hl
  have : s.data.toList.length = s.size := by simp
  simp at hl
  omega

theorem ret_str {a b : ByteArray} (h : a = b) : Ending.returned (.string a) = .returned (.string b) := by rw [h]
theorem bytes_ext {a b : ByteArray} (h : a.data.toList = b.data.toList) : a = b := by
  cases a; cases b; simp only [ByteArray.mk.injEq]; exact Array.ext' h
theorem fmt_end0 (n : Nat) {s : ByteArray} (h : 0 < n) (hf : FmtRel n 0 s) : s = ⟨(Lib.itoa n).toArray⟩ := by
  apply bytes_ext
  unfold FmtRel digs at hf
  rw [if_neg (by omega), if_pos rfl] at hf
  rw [Lib.itoa_nonneg, hf]; simp

set_option maxHeartbeats 400000 in
theorem fmtS_pos (n : Nat) (w : World) (h0 : 0 < n) (h1 : n ≤ 9223372036854775807) : Calls Tryd.prog 19 #[.int .i64 n] w (fun e w' => e = .returned (.string ⟨(Lib.itoa n).toArray⟩) ∧ Below w.heap.size w w') := by
  have b1 : decide ((n : Int) < 0) = false := by simp
  have b2 : ((n : Int) == 0) = false := by rw [beq_eq_false_iff_ne]; omega
  go_enter Tryd.func19, Tryd.ntmps19
  go_wp2_with fail
  go_loopw [0, 4] (fun i v wr => ∃ (m : Nat) (s : ByteArray), m ≤ n ∧ i = .int .i64 m ∧ v = .string s ∧ FmtRel n m s ∧ Below w.heap.size w wr) (fun i _ _ => (intOf i).toNat)
  case atStart => exact ⟨n, ByteArray.empty, Nat.le_refl _, rfl, rfl, by simp [FmtRel], Below.refl _ _⟩
  case round =>
    obtain ⟨m, s, hm, rfl, rfl, hf, hbel⟩ := hrel
    have HF := Lib.hid hf
    clear hf
    by_cases hlt : 0 < m
    · have hb : ((m : Int) != 0) = true := by rw [bne_iff_ne]; omega
      go_wp2_with fail
      refine (fig_any _ _ (by omega) (by omega)).mono ?_
      rintro e w1 ⟨rfl, rfl⟩
      have hcv := one_string (figOf ((m : Int) % 10)) w1
      have hz1 : (strOfNums [figOf ((m : Int) % 10)]).size = 1 := rfl
      have hz2 := fmt_size n h0 (by omega) HF.out
      go_wp2_with fail
      clear hcv hz1 hz2
      go_roundw
      case rel => exact fmt_rel hlt hm HF.out (hbel.alloc hbel.size _)
      case measure => simp [intOf]; omega
    · obtain rfl : m = 0 := by omega
      go_wp2_with fail
      go_ret
      exact ⟨ret_str (fmt_end0 n (by omega) HF.out), hbel⟩
theorem fmt_end1 (n : Nat) {s : ByteArray} (h : 0 < n) (hf : FmtRel n 0 s) : (⟨#[45]⟩ : ByteArray) ++ s = ⟨(Lib.itoa (-(n : Int))).toArray⟩ := by
  apply bytes_ext
  unfold FmtRel digs at hf
  rw [if_neg (by omega), if_pos rfl] at hf
  rw [Lib.itoa_neg n h, hf]; simp

theorem fmt_rel_neg {W w1 : World} {n m : Nat} {s : ByteArray} (h : 0 < m) (hm : m ≤ n) (hf : FmtRel n m s) (hb : Below W.heap.size W w1) :
    ∃ (j : Nat) (t : ByteArray), j ≤ n ∧ Value.int .i64 (-((m : Int) / 10)) = .int .i64 (-(j : Int)) ∧ Value.string (strOfNums [figOf ((m : Int) % 10)] ++ s) = .string t ∧ FmtRel n j t ∧ Below W.heap.size W w1 := by
  obtain ⟨j, t, h1, _, h3, h4, h5⟩ := fmt_rel h hm hf hb
  cases h3
  refine ⟨m / 10, _, by omega, by congr 1, rfl, ?_, h5⟩
  have := (fmt_rel h hm hf hb)
  rw [fig_u8]
  unfold FmtRel at *
  rw [hf, digs_step m h]
  simp

set_option maxHeartbeats 400000 in
theorem fmtS_neg (n : Nat) (w : World) (h0 : 0 < n) (h1 : n ≤ 9223372036854775808) : Calls Tryd.prog 19 #[.int .i64 (-(n : Int))] w (fun e w' => e = .returned (.string ⟨(Lib.itoa (-(n : Int))).toArray⟩) ∧ Below w.heap.size w w') := by
  have b1 : decide (-(n : Int) < 0) = true := by simp; omega
  have b2 : (-(n : Int) == 0) = false := by rw [beq_eq_false_iff_ne]; omega
  go_enter Tryd.func19, Tryd.ntmps19
  go_wp2_with fail
  go_loopw [0, 4] (fun i v wr => ∃ (m : Nat) (s : ByteArray), m ≤ n ∧ i = .int .i64 (-(m : Int)) ∧ v = .string s ∧ FmtRel n m s ∧ Below w.heap.size w wr) (fun i _ _ => (-(intOf i)).toNat)
  case atStart => exact ⟨n, ByteArray.empty, Nat.le_refl _, rfl, rfl, by simp [FmtRel], Below.refl _ _⟩
  case round =>
    obtain ⟨m, s, hm, rfl, rfl, hf, hbel⟩ := hrel
    have HF := Lib.hid hf
    clear hf
    by_cases hlt : 0 < m
    · have hb : (-(m : Int) != 0) = true := by rw [bne_iff_ne]; omega
      go_wp2_with fail
      all_goals try rw [show -((m : Int) % 10) = (m : Int) % 10 from by omega]
      all_goals refine (fig_any _ _ (by omega) (by omega)).mono ?_
      all_goals rintro e w1 ⟨rfl, rfl⟩
      all_goals have hcv := one_string (figOf ((m : Int) % 10)) w1
      all_goals have hz1 : (strOfNums [figOf ((m : Int) % 10)]).size = 1 := rfl
      all_goals have hz2 := fmt_size n h0 (by omega) HF.out
      all_goals go_wp2_with fail
      all_goals clear hcv hz1 hz2
      all_goals go_roundw
      all_goals first | exact fmt_rel_neg hlt hm HF.out (hbel.alloc hbel.size _) | (simp [intOf]; omega)
    · obtain rfl : m = 0 := by omega
      have hz2 := fmt_size n h0 (by omega) HF.out
      go_wp2_with fail
      go_ret
      exact ⟨ret_str (fmt_end1 n (by omega) HF.out), hbel⟩

theorem fmtS_zero (w : World) : Calls Tryd.prog 19 #[.int .i64 0] w (fun e w' => e = .returned (.string ⟨(Lib.itoa 0).toArray⟩) ∧ Below w.heap.size w w') := by
  go_enter Tryd.func19, Tryd.ntmps19
  go_wp2_with fail
  go_ret
  exact ⟨ret_str (by decide +kernel), Below.refl _ _⟩

/-- FormatInt of the model writes Lib.itoa, for every int. -/
theorem fmtS_any (n : Int) (w : World) (h0 : -9223372036854775808 ≤ n) (h1 : n ≤ 9223372036854775807) : Calls Tryd.prog 19 #[.int .i64 n] w (fun e w' => e = .returned (.string ⟨(Lib.itoa n).toArray⟩) ∧ Below w.heap.size w w') := by
  rcases Int.lt_trichotomy n 0 with h | rfl | h
  · obtain ⟨m, hm⟩ := Int.eq_ofNat_of_zero_le (show 0 ≤ -n by omega)
    obtain rfl : n = -(m : Int) := by omega
    exact fmtS_neg m w (by omega) (by omega)
  · exact fmtS_zero w
  · obtain ⟨m, rfl⟩ := Int.eq_ofNat_of_zero_le (show 0 ≤ n by omega)
    exact fmtS_pos m w (by omega) (by omega)
end Go.Proofs.YtgbfadfjbdjpeaaDoor
