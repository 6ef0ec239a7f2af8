/- FnClamped: a clamped number is in the range, is not changed again, and equals the number if this is in the range. Whatever the bytes of the draw. No condition. -/
import Derived.Test.YtgbfadfjbdjpeaaNumber
import Derived.Test.YtgbfadfjbdjpeaaRows
import Derived.ShutString
import Derived.ChangeOld
namespace Go.Proofs.Ytgbfadfjbdjpeaa
open Go.RowKit Go

theorem big_any (w : World) (a : Option Addr) (len cap : Nat) : Calls Try.prog 8 #[.slice a len cap] w (fun e w' => e = .returned (.bool (decide (1048576 < (len : Int)))) ∧ w = w') := by
  go_enter Try.func8, Try.ntmps8
  go_wp2
  go_ret
  exact ⟨rfl, rfl⟩

theorem ret_int {k : IntKind} {a b : Int} (h : a = b) : Ending.returned (.int k a) = .returned (.int k b) := by rw [h]

def clampOf (n a b : Int) : Int := if b < a then a else if n < a then a else if b < n then b else n

theorem clamp_any (n a b : Int) (w : World) : Calls Try.prog 10 #[.int .i64 n, .int .i64 a, .int .i64 b] w (fun e w' => e = .returned (.int .i64 (clampOf n a b)) ∧ w = w') := by
  go_enter Try.func10, Try.ntmps10
  go_wp2
  all_goals go_ret
  all_goals exact ⟨ret_int (by unfold clampOf; repeat' split
                               all_goals omega), rfl⟩

def DrawClampSaid (w : World) (e : Ending) (w' : World) : Prop := ∃ n a b : Int, e = .returned (.tuple #[.int .i64 n, .int .i64 a, .int .i64 b]) ∧ Below w.heap.size w w'

set_option maxHeartbeats 400000 in
theorem drawClamp_any (w : World) (a : Option Addr) (len cap : Nat) (hl : len ≤ maxLen) (hb : Bytes w.heap.size w a len) : Calls Try.prog 9 #[.slice a len cap] w (DrawClampSaid w) := by
  have HB := Lib.hid hb
  have HL := Lib.hid hl
  clear hb hl
  go_enter Try.func9, Try.ntmps9
  go_wp2_with fail
  refine (new_any _ _ _ _ HL.out HB.out).mono ?_
  rintro e w1 ⟨B, rfl, hc1, hb1⟩
  clear HB HL
  go_wp2_with fail
  refine (once_any _ _ (by omega) hc1).mono ?_
  rintro e w2 ⟨b, rfl, hc2, hg2⟩
  cases b
  · go_wp2_with fail
    refine (below_any _ _ (by omega) hc2).mono ?_
    rintro e w3 ⟨x3, ⟨h30, _, h31⟩, rfl, hc3, hg3⟩
    have h31 := h31 (by omega)
    go_wp2_with fail
    refine (below_any _ _ (by omega) hc3).mono ?_
    rintro e w4 ⟨x4, ⟨h40, _, h41⟩, rfl, hc4, hg4⟩
    have h41 := h41 (by omega)
    go_wp2_with fail
    refine (below_any _ _ (by omega) hc4).mono ?_
    rintro e w5 ⟨x5, ⟨h50, _, h51⟩, rfl, hc5, hg5⟩
    have h51 := h51 (by omega)
    go_wp2_with fail
    go_ret3
    exact ⟨_, _, _, rfl, hb1.trans (grownBy_below (grownBy_trans hg2 (grownBy_trans hg3 (grownBy_trans hg4 hg5))) hb1.size (fun k e => by cases e; exact hc1.1))⟩
  · go_wp2_with fail
    refine (number_any _ hc2).mono ?_
    rintro e w3 ⟨x3, _, rfl, hc3, hg3⟩
    go_wp2_with fail
    refine (number_any _ hc3).mono ?_
    rintro e w4 ⟨x4, _, rfl, hc4, hg4⟩
    go_wp2_with fail
    refine (number_any _ hc4).mono ?_
    rintro e w5 ⟨x5, _, rfl, hc5, hg5⟩
    go_wp2_with fail
    go_ret3
    exact ⟨_, _, _, rfl, hb1.trans (grownBy_below (grownBy_trans hg2 (grownBy_trans hg3 (grownBy_trans hg4 hg5))) hb1.size (fun k e => by cases e; exact hc1.1))⟩

set_option maxHeartbeats 400000 in
theorem fnClamped_walk (a0 : Option Addr) (len0 cap0 : Nat) (z0 : List Int) (w : World) (w0 : IsRow .u8 w a0 len0 cap0 z0) :
    Calls Try.prog 3 #[.slice a0 len0 cap0] w fun e w' => e = .returned (.bool true) ∧ Below w.heap.size w w' := by
  have HB := Lib.hid w0.bytes
  clear w0
  by_cases hbig : 1048576 < (len0 : Int)
  · go_enter Try.func3, Try.ntmps3
    go_wp2_with fail
    refine (big_any _ _ _ _).mono ?_
    rintro e w1 ⟨rfl, rfl⟩
    go_wp2_with fail
    go_ret
    exact ⟨rfl, Below.refl _ _⟩
  · go_enter Try.func3, Try.ntmps3
    go_wp2_with fail
    refine (big_any _ _ _ _).mono ?_
    rintro e w1 ⟨rfl, rfl⟩
    go_wp2_with fail
    refine (drawClamp_any _ _ _ _ HB.out.2 HB.out.1).mono ?_
    rintro e w1 ⟨n, a, b, rfl, hb1⟩
    go_wp2_with fail
    refine (clamp_any _ _ _ _).mono ?_
    rintro e w2 ⟨rfl, rfl⟩
    have c0 : clampOf 7 3 5 = 5 := by decide
    by_cases hba : b < a
    · have c1 : clampOf n a b = a := by unfold clampOf; rw [if_pos hba]
      rw [c1]
      clear c1
      have C0 := Lib.hid c0
      clear c0
      go_wp2_with fail
      refine (clamp_any _ _ _ _).mono ?_
      rintro e w2 ⟨rfl, rfl⟩
      rw [C0.out]
      go_wp2_with fail
      go_ret
      exact ⟨rfl, hb1⟩
    · have c1 : a ≤ clampOf n a b ∧ clampOf n a b ≤ b ∧ clampOf (clampOf n a b) a b = clampOf n a b ∧ (n < a ∨ b < n ∨ clampOf n a b = n) := by
        unfold clampOf; repeat' split
        all_goals omega
      generalize clampOf n a b = x at *
      obtain ⟨c1, c2, c3, c4⟩ := c1
      have C0 := Lib.hid c0
      have C3 := Lib.hid c3
      clear c0 c3
      have hfin : n < a ∨ b < n ∨ (n = x) := by omega
      clear c4
      have hcase : n < a ∨ (a ≤ n ∧ b < n) ∨ (a ≤ n ∧ n ≤ b ∧ n = x) := by omega
      clear hfin
      have step : ∀ (e : Ending) (w2 : World), e = .returned (.bool true) ∧ w1 = w2 → e = .returned (.bool true) ∧ Below w.heap.size w w2 := fun e w2 h => ⟨h.1, h.2 ▸ hb1⟩
      have ST := Lib.hid step
      clear step
      rcases hcase with h | ⟨h, h'⟩ | ⟨h, h', rfl⟩
      all_goals go_wp2_with fail
      all_goals refine (clamp_any _ _ _ _).mono ?_
      all_goals rintro e w2 ⟨rfl, rfl⟩
      all_goals rw [C3.out]
      all_goals go_wp2_with fail
      all_goals refine (clamp_any _ _ _ _).mono ?_
      all_goals rintro e w2 ⟨rfl, rfl⟩
      all_goals rw [C0.out]
      all_goals go_wp2_with fail
      all_goals go_ret
      all_goals exact ST.out _ _ ⟨rfl, rfl⟩
end Go.Proofs.Ytgbfadfjbdjpeaa
