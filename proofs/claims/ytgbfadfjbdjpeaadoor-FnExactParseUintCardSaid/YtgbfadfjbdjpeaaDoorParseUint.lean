/- FnExactParseUint: whatever string ParseUint is given, the program answers as the model. -/
import Derived.Test.YtgbfadfjbdjpeaaDoorParseP
namespace Go.Proofs.YtgbfadfjbdjpeaaDoor
open Go.RowKit Go

set_option maxHeartbeats 400000 in
theorem fnExactParseUint_walk (s : ByteArray) (_hs : s.size ≤ maxLen) (w : World) (hn : NumVars w) :
    Calls Tryd.prog 7 #[.string s] w fun e w' => e = .returned (.bool true) ∧ Below w.heap.size w w' := by
  have HN := Lib.hid hn
  clear hn
  by_cases hbig : 1048576 < s.size
  · go_enter Tryd.func7, Tryd.ntmps7
    go_wp2_with fail
    go_ret
    exact ⟨rfl, Below.refl _ _⟩
  · go_enter Tryd.func7, Tryd.ntmps7
    go_wp2_with fail
    refine (puS_any s _).mono ?_
    rintro e w1 ⟨rfl, hb1⟩
    have hP := fun W h => puP_any s W (by omega) h
    have HP := Lib.hid hP
    clear hP
    generalize puOf s.data.toList = r at *
    cases r with
    | none =>
      simp only [puAns] at *
      go_wp2_with fail
      refine (HP.out _ (HN.out.below hb1 (Nat.le_refl _))).mono ?_
      rintro e w2 ⟨rfl, hb2⟩
      go_wp2_with fail
      go_ret
      exact ⟨rfl, hb1.trans (hb2.mono hb1.size)⟩
    | some n =>
      simp only [puAns] at *
      go_wp2_with fail
      refine (HP.out _ (HN.out.below hb1 (Nat.le_refl _))).mono ?_
      rintro e w2 ⟨rfl, hb2⟩
      go_wp2_with fail
      go_ret
      exact ⟨rfl, hb1.trans (hb2.mono hb1.size)⟩
end Go.Proofs.YtgbfadfjbdjpeaaDoor
