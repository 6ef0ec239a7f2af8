/- The contract of a draw of any number of an int's range. -/
import Derived.Test.YtgbfadfjbdjpeaaDoorDraw2
namespace Go.Proofs.YtgbfadfjbdjpeaaDoor
open Go.RowKit Go

def i64P (x : Int) : Prop := -9223372036854775808 ≤ x ∧ x ≤ 9223372036854775807
theorem wrap_i64P (x : Int) : i64P (wrap64 x) := bounds_i64 (wrap64_wf x)

set_option maxHeartbeats 400000 in
theorem number_any {base B : Nat} (w : World) (hc : Cur base w B) : Calls Tryd.prog 28 #[.pointer (some ⟨B, 0, none⟩)] w (Drew base B i64P w) := by
  have HC := Lib.hid hc
  go_enter Tryd.func28, Tryd.ntmps28
  go_wp2_with fail
  refine (below_any _ _ (by omega) hc).mono ?_
  rintro e w1 ⟨x, ⟨hx0, _, hx1⟩, rfl, hc1, hg1⟩
  have hx1 := hx1 (by omega)
  by_cases h0 : x = 0
  · have hlt := hc1.lt
    have hm := NumBlock.made w1 [-1, 0, 127, 128, 16383, 16384, 1000000000, 1000000001, 9223372036854775807, -9223372036854775808] 3
    have HM := Lib.hid hm
    clear hm
    subst h0
    go_wp2_with fail
    refine (pickInt_any _ _ _ 10 (by rfl) (by omega) (by omega) (by omega) HM.out (hc1.alloc _)).mono ?_
    rintro e w2 ⟨y, hy, rfl, hc2, hg2⟩
    go_wp2_with fail
    go_ret
    refine ⟨y, ?_, rfl, hc2, grownBy_trans hg1 (grownBy_trans (World.grownBy_alloc _ _ _) hg2)⟩
    simp only [List.mem_cons, List.not_mem_nil, or_false] at hy
    unfold i64P
    omega
  · by_cases h1 : x = 1
    · subst h1
      go_wp2_with fail
      refine (below_any _ _ (by omega) hc1).mono ?_
      rintro e w2 ⟨y, ⟨hy0, _, hy1⟩, rfl, hc2, hg2⟩
      have hy1 := hy1 (by omega)
      go_wp2_with fail
      go_ret
      exact ⟨y, by unfold i64P; omega, rfl, hc2, grownBy_trans hg1 hg2⟩
    · have k0 : (x == 0) = false := by simp [h0]
      have k1 : (x == 1) = false := by simp [h1]
      go_wp2_with fail
      refine (below_any _ _ (by omega) hc1).mono ?_
      rintro e w2 ⟨y, ⟨hy0, _, hy1⟩, rfl, hc2, hg2⟩
      have hy1 := hy1 (by omega)
      go_wp2_with fail
      go_ret
      exact ⟨y, by unfold i64P; omega, rfl, hc2, grownBy_trans hg1 hg2⟩

theorem big_any (w : World) (a : Option Addr) (len cap : Nat) : Calls Tryd.prog 8 #[.slice a len cap] w (fun e w' => e = .returned (.bool (decide (1048576 < (len : Int)))) ∧ w = w') := by
  go_enter Tryd.func8, Tryd.ntmps8
  go_wp2
  go_ret
  exact ⟨rfl, rfl⟩

end Go.Proofs.YtgbfadfjbdjpeaaDoor
