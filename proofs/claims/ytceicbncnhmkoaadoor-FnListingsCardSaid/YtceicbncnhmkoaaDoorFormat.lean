/- FormatInt of the model: the text is Lib.itoa's. -/
import Derived.Test.YtceicbncnhmkoaaDoorFmtRel
namespace Go.Proofs.YtceicbncnhmkoaaDoor
open Go.RowKit Go

set_option maxHeartbeats 400000 in
theorem fmtS_pos (n : Nat) (w : World) (h0 : 0 < n) (h1 : n ≤ 9223372036854775807) : Calls Tryd.prog 46 #[.int .i64 n] w (fun e w' => e = .returned (.string ⟨(Lib.itoa n).toArray⟩) ∧ Below w.heap.size w w') := by
  have b1 : decide ((n : Int) < 0) = false := by simp
  have b2 : ((n : Int) == 0) = false := by rw [beq_eq_false_iff_ne]; omega
  go_enter Tryd.func46, Tryd.ntmps46
  go_wp2_with fail
  go_loopw [0, 4] (fun i v wr => ∃ (m : Nat) (s : ByteArray), m ≤ n ∧ i = .int .i64 m ∧ v = .string s ∧ FmtRel n m s ∧ Below w.heap.size w wr) (fun i _ _ => (intOf i).toNat)
  case atStart => exact ⟨n, ByteArray.empty, Nat.le_refl _, rfl, rfl, by simp [FmtRel], Below.refl _ _⟩
  case round =>
    obtain ⟨m, s, hm, rfl, rfl, hf, hbel⟩ := hrel
    have HF := Lib.hid hf
    clear hf
    by_cases hlt : 0 < m
    · have hb : ((m : Int) != 0) = true := by rw [bne_iff_ne]; omega
      go_wp2_with fail
      refine (fig_any _ _ (by omega) (by omega)).mono ?_
      rintro e w1 ⟨rfl, rfl⟩
      have hcv := one_string (figOf ((m : Int) % 10)) w1
      have hz1 : (strOfNums [figOf ((m : Int) % 10)]).size = 1 := rfl
      have hz2 := fmt_size n h0 (by omega) HF.out
      go_wp2_with fail
      clear hcv hz1 hz2
      go_roundw
      case rel => exact fmt_rel hlt hm HF.out (hbel.alloc hbel.size _)
      case measure => simp [intOf]; omega
    · obtain rfl : m = 0 := by omega
      go_wp2_with fail
      go_ret
      exact ⟨ret_str (fmt_end0 n (by omega) HF.out), hbel⟩
set_option maxHeartbeats 400000 in
theorem fmtS_neg (n : Nat) (w : World) (h0 : 0 < n) (h1 : n ≤ 9223372036854775808) : Calls Tryd.prog 46 #[.int .i64 (-(n : Int))] w (fun e w' => e = .returned (.string ⟨(Lib.itoa (-(n : Int))).toArray⟩) ∧ Below w.heap.size w w') := by
  have b1 : decide (-(n : Int) < 0) = true := by simp; omega
  have b2 : (-(n : Int) == 0) = false := by rw [beq_eq_false_iff_ne]; omega
  go_enter Tryd.func46, Tryd.ntmps46
  go_wp2_with fail
  go_loopw [0, 4] (fun i v wr => ∃ (m : Nat) (s : ByteArray), m ≤ n ∧ i = .int .i64 (-(m : Int)) ∧ v = .string s ∧ FmtRel n m s ∧ Below w.heap.size w wr) (fun i _ _ => (-(intOf i)).toNat)
  case atStart => exact ⟨n, ByteArray.empty, Nat.le_refl _, rfl, rfl, by simp [FmtRel], Below.refl _ _⟩
  case round =>
    obtain ⟨m, s, hm, rfl, rfl, hf, hbel⟩ := hrel
    have HF := Lib.hid hf
    clear hf
    by_cases hlt : 0 < m
    · have hb : (-(m : Int) != 0) = true := by rw [bne_iff_ne]; omega
      go_wp2_with fail
      all_goals try rw [show -((m : Int) % 10) = (m : Int) % 10 from by omega]
      all_goals refine (fig_any _ _ (by omega) (by omega)).mono ?_
      all_goals rintro e w1 ⟨rfl, rfl⟩
      all_goals have hcv := one_string (figOf ((m : Int) % 10)) w1
      all_goals have hz1 : (strOfNums [figOf ((m : Int) % 10)]).size = 1 := rfl
      all_goals have hz2 := fmt_size n h0 (by omega) HF.out
      all_goals go_wp2_with fail
      all_goals clear hcv hz1 hz2
      all_goals go_roundw
      all_goals first | exact fmt_rel_neg hlt hm HF.out (hbel.alloc hbel.size _) | (simp [intOf]; omega)
    · obtain rfl : m = 0 := by omega
      have hz2 := fmt_size n h0 (by omega) HF.out
      go_wp2_with fail
      go_ret
      exact ⟨ret_str (fmt_end1 n (by omega) HF.out), hbel⟩

theorem fmtS_zero (w : World) : Calls Tryd.prog 46 #[.int .i64 0] w (fun e w' => e = .returned (.string ⟨(Lib.itoa 0).toArray⟩) ∧ Below w.heap.size w w') := by
  go_enter Tryd.func46, Tryd.ntmps46
  go_wp2_with fail
  go_ret
  exact ⟨ret_str (by decide +kernel), Below.refl _ _⟩

/-- FormatInt of the model writes Lib.itoa, for every int. -/
theorem fmtS_any (n : Int) (w : World) (h0 : -9223372036854775808 ≤ n) (h1 : n ≤ 9223372036854775807) : Calls Tryd.prog 46 #[.int .i64 n] w (fun e w' => e = .returned (.string ⟨(Lib.itoa n).toArray⟩) ∧ Below w.heap.size w w') := by
  rcases Int.lt_trichotomy n 0 with h | rfl | h
  · obtain ⟨m, hm⟩ := Int.eq_ofNat_of_zero_le (show 0 ≤ -n by omega)
    obtain rfl : n = -(m : Int) := by omega
    exact fmtS_neg m w (by omega) (by omega)
  · exact fmtS_zero w
  · obtain ⟨m, rfl⟩ := Int.eq_ofNat_of_zero_le (show 0 ≤ n by omega)
    exact fmtS_pos m w (by omega) (by omega)
end Go.Proofs.YtceicbncnhmkoaaDoor
