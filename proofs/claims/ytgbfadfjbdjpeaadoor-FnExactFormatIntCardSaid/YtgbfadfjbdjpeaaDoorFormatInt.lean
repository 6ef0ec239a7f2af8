/- FnExactFormatInt: whatever number FormatInt is given, the program answers as the model. -/
import Derived.Test.YtgbfadfjbdjpeaaDoorFormat
import Derived.Test.YtgbfadfjbdjpeaaDoorItoa
namespace Go.Proofs.YtgbfadfjbdjpeaaDoor
open Go.RowKit Go

set_option maxHeartbeats 400000 in
theorem fnExactFormatInt_walk (n : Int) (wf : (Lit.int .i64 n).wf = true) (w : World) (hp : Pow10 w) :
    Calls Tryd.prog 6 #[.int .i64 n] w fun e w' => e = .returned (.bool true) ∧ Below w.heap.size w w' := by
  obtain ⟨h0, h1⟩ := bounds_i64 wf
  clear wf
  have HP := Lib.hid hp
  clear hp
  go_enter Tryd.func6, Tryd.ntmps6
  go_wp2_with fail
  refine (fmtS_any n _ h0 h1).mono ?_
  rintro e w1 ⟨rfl, hb1⟩
  have hf := fun W h => fmtP_any n W h0 h1 h
  have HF := Lib.hid hf
  clear hf
  generalize (⟨(Lib.itoa n).toArray⟩ : ByteArray) = r at *
  go_wp2_with fail
  refine (HF.out _ (HP.out.below hb1 (Nat.le_refl _))).mono ?_
  rintro e w2 ⟨rfl, hb2⟩
  go_wp2_with fail
  go_ret
  exact ⟨rfl, hb1.trans (hb2.mono hb1.size)⟩
end Go.Proofs.YtgbfadfjbdjpeaaDoor
