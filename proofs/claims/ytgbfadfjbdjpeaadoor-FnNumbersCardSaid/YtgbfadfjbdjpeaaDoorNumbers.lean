/- FnNumbers: exactly the numbers in the range 0 to MaxUint can be parsed from their decimal text. -/
import Derived.Test.YtgbfadfjbdjpeaaDoorParseP
import Derived.Test.YtgbfadfjbdjpeaaDoorNumber
namespace Go.Proofs.YtgbfadfjbdjpeaaDoor
open Go.RowKit Go

theorem puOf_out (n : Int) (h : n < 0 ∨ 1000000000 < n) : puOf (Lib.itoa n) = none := by
  rcases h with h | h
  · obtain ⟨m, hm⟩ := Int.eq_ofNat_of_zero_le (show 0 ≤ -n by omega)
    obtain rfl : n = -(m : Int) := by omega
    rw [Lib.itoa_neg m (by omega)]
    unfold puOf
    simp [Lib.decFrom, Lib.digitVal]
  · obtain ⟨m, rfl⟩ := Int.eq_ofNat_of_zero_le (show 0 ≤ n by omega)
    unfold puOf
    rw [Lib.itoa_nonneg, decFrom_digits]
    simp only [Lib.itoa_nonneg]
    rw [if_neg (fun hh => by have := hh.1; omega)]

theorem itoa_ne (n : Int) : Lib.itoa n ≠ [] := by
  intro h
  unfold Lib.itoa at h
  split at h
  · cases h
  · obtain ⟨c, r, hc⟩ := decDigits_cons n.toNat
    rw [hc] at h; cases h

set_option maxHeartbeats 400000 in
theorem drawFormatInt_any (w : World) (a : Option Addr) (len cap : Nat) (hl : len ≤ maxLen) (hb : Bytes w.heap.size w a len) :
    Calls Tryd.prog 13 #[.slice a len cap] w (fun e w' => ∃ n, i64P n ∧ e = .returned (.int .i64 n) ∧ Below w.heap.size w w') := by
  have HB := Lib.hid hb
  have HL := Lib.hid hl
  clear hb hl
  go_enter Tryd.func13, Tryd.ntmps13
  go_wp2_with fail
  refine (new_any _ _ _ _ HL.out HB.out).mono ?_
  rintro e w1 ⟨B, rfl, hc1, hb1⟩
  clear HB HL
  go_wp2_with fail
  refine (once_any _ _ (by omega) hc1).mono ?_
  rintro e w2 ⟨b, rfl, hc2, hg2⟩
  cases b
  · go_wp2_with fail
    refine (number_any _ hc2).mono ?_
    rintro e w3 ⟨x3, h3, rfl, hc3, hg3⟩
    go_wp2_with fail
    go_ret
    exact ⟨x3, h3, rfl, hb1.trans (grownBy_below (grownBy_trans hg2 hg3) hb1.size (fun k e => by cases e; exact hc1.1))⟩
  · go_wp2_with fail
    refine (below_any _ _ (by omega) hc2).mono ?_
    rintro e w3 ⟨x3, ⟨h30, _, h31⟩, rfl, hc3, hg3⟩
    have h31 := h31 (by omega)
    go_wp2_with fail
    refine (below_any _ _ (by omega) hc3).mono ?_
    rintro e w4 ⟨x4, ⟨h40, _, h41⟩, rfl, hc4, hg4⟩
    have h41 := h41 (by omega)
    go_wp2_with fail
    go_ret
    exact ⟨_, wrap_i64P _, rfl, hb1.trans (grownBy_below (grownBy_trans hg2 (grownBy_trans hg3 hg4)) hb1.size (fun k e => by cases e; exact hc1.1))⟩

set_option maxHeartbeats 400000 in
theorem fnNumbers_walk (a0 : Option Addr) (len0 cap0 : Nat) (z0 : List Int) (w : World) (w0 : IsRow .u8 w a0 len0 cap0 z0) (hn : NumVars w) :
    Calls Tryd.prog 4 #[.slice a0 len0 cap0] w fun e w' => e = .returned (.bool true) ∧ Below w.heap.size w w' := by
  have HB := Lib.hid w0.bytes
  have HN := Lib.hid hn
  clear w0 hn
  by_cases hbig : 1048576 < (len0 : Int)
  · go_enter Tryd.func4, Tryd.ntmps4
    go_wp2_with fail
    refine (big_any _ _ _ _).mono ?_
    rintro e w1 ⟨rfl, rfl⟩
    go_wp2_with fail
    go_ret
    exact ⟨rfl, Below.refl _ _⟩
  · go_enter Tryd.func4, Tryd.ntmps4
    go_wp2_with fail
    refine (big_any _ _ _ _).mono ?_
    rintro e w1 ⟨rfl, rfl⟩
    go_wp2_with fail
    refine (drawFormatInt_any _ _ _ _ HB.out.2 HB.out.1).mono ?_
    rintro e w1 ⟨n, ⟨hn0, hn1⟩, rfl, hb1⟩
    go_wp2_with fail
    refine (fmtP_any n _ hn0 hn1 (HN.out.pow.below hb1 (Nat.le_refl _))).mono ?_
    rintro e w2 ⟨rfl, hb2⟩
    have hb := hb1.trans (hb2.mono hb1.size)
    have hl := Lib.itoa_length_le n hn0 hn1
    have hne := itoa_ne n
    obtain ⟨r, hr⟩ : ∃ r : ByteArray, r = ⟨(Lib.itoa n).toArray⟩ := ⟨_, rfl⟩
    rw [← hr]
    have hrl : r.data.toList = Lib.itoa n := by rw [hr]
    have hrs : r.size ≤ 21 := by have : r.data.toList.length = r.size := by simp
                                 rw [hrl] at this; omega
    have hre : r.toList.isEmpty = false := by rw [Lib.toList_data, hrl]; simpa using hne
    have HR := Lib.hid hrl
    clear hr hrl hne hl
    have NV := HN.out.below hb (Nat.le_refl _)
    go_wp2_with fail
    refine (puP_any r _ (by omega) NV).mono ?_
    rintro e w3 ⟨rfl, hb3⟩
    have hbb := hb.trans (hb3.mono hb.size)
    clear NV HN HB
    rw [HR.out]
    by_cases hin : 0 ≤ n ∧ n ≤ 1000000000
    · obtain ⟨m, rfl⟩ := Int.eq_ofNat_of_zero_le hin.1
      rw [puOf_itoa m (by omega)]
      obtain ⟨h0, h1⟩ := hin
      simp only [puAns]
      go_wp2_with fail
      go_ret
      exact ⟨rfl, hbb⟩
    · rw [puOf_out n (by omega)]
      have hc : n < 0 ∨ 1000000000 < n := by omega
      clear hin
      simp only [puAns]
      rcases hc with hc | hc
      all_goals go_wp2_with fail
      all_goals go_ret
      all_goals exact ⟨rfl, hbb⟩
end Go.Proofs.YtgbfadfjbdjpeaaDoor
