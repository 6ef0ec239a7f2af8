/- FnExactDecodeHex: whatever string DecodeHex is given, the program answers as the model. No condition. -/
import Derived.Test.YtgbfadfjbdjpeaaDecodeP
namespace Go.Proofs.Ytgbfadfjbdjpeaa
open Go.RowKit Go

theorem decS_bad (s : ByteArray) (w : World) (hs : 40000 < s.size ∨ s.size % 2 = 1) : Calls Try.prog 13 #[.string s] w (fun e w' => e = .returned (.tuple #[.string ⟨#[]⟩, .bool false]) ∧ w = w') := by
  by_cases h : 40000 < s.size
  · clear hs
    go_enter Try.func13, Try.ntmps13
    go_wp2
    go_ret2
    exact ⟨rfl, rfl⟩
  · have h2 : (s.size : Int) % 2 = 1 := by omega
    clear hs
    go_enter Try.func13, Try.ntmps13
    go_wp2
    go_ret2
    exact ⟨rfl, rfl⟩

theorem decP_bad (s : ByteArray) (w : World) (hm : s.size ≤ 1048576) (hs : 40000 < s.size ∨ s.size % 2 = 1) : Calls Try.prog 14 #[.string s] w (fun e w' => e = .returned (.tuple #[.string ⟨#[]⟩, .bool false]) ∧ w = w') := by
  by_cases h : s.size % 2 = 1
  · have h2 : (s.size : Int) % 2 = 1 := by omega
    clear hs h
    go_enter Try.func14, Try.ntmps14
    go_wp2
    go_ret2
    exact ⟨rfl, rfl⟩
  · have h2 : (s.size : Int) % 2 = 0 := by omega
    have h3 : 40000 < s.size := by omega
    clear hs h
    go_enter Try.func14, Try.ntmps14
    go_wp2
    go_ret2
    exact ⟨rfl, rfl⟩

set_option maxHeartbeats 400000 in
theorem fnExactDecodeHex_walk (s : ByteArray) (_hs : s.size ≤ maxLen) (w : World) :
    Calls Try.prog 5 #[.string s] w fun e w' => e = .returned (.bool true) ∧ Below w.heap.size w w' := by
  by_cases hbig : 1048576 < s.size
  · go_enter Try.func5, Try.ntmps5
    go_wp2_with fail
    go_ret
    exact ⟨rfl, Below.refl _ _⟩
  · by_cases hbad : 40000 < s.size ∨ s.size % 2 = 1
    · go_enter Try.func5, Try.ntmps5
      go_wp2_with fail
      refine (decS_bad s _ hbad).mono ?_
      rintro e w1 ⟨rfl, rfl⟩
      go_wp2_with fail
      refine (decP_bad s _ (by omega) hbad).mono ?_
      rintro e w2 ⟨rfl, rfl⟩
      go_wp2_with fail
      go_ret
      exact ⟨rfl, Below.refl _ _⟩
    · have hev : s.size % 2 = 0 := by omega
      have hle : s.size ≤ 40000 := by omega
      have HE := Lib.hid hev
      clear hev hbad
      go_enter Try.func5, Try.ntmps5
      go_wp2_with fail
      refine (decS_any s _ hle HE.out).mono ?_
      rintro e w1 ⟨rfl, hb1⟩
      have hP := fun w => decP_any s w hle HE.out
      have HP := Lib.hid hP
      clear hP
      generalize dec s.data.toList = r at *
      cases r with
      | none =>
        simp only [decAns] at *
        go_wp2_with fail
        refine (HP.out _).mono ?_
        rintro e w2 ⟨rfl, hb2⟩
        go_wp2_with fail
        go_ret
        exact ⟨rfl, hb1.trans (hb2.mono hb1.size)⟩
      | some xs =>
        simp only [decAns] at *
        go_wp2_with fail
        refine (HP.out _).mono ?_
        rintro e w2 ⟨rfl, hb2⟩
        generalize strOfNums xs = t at *
        go_wp2_with fail
        go_ret
        exact ⟨rfl, hb1.trans (hb2.mono hb1.size)⟩
end Go.Proofs.Ytgbfadfjbdjpeaa
