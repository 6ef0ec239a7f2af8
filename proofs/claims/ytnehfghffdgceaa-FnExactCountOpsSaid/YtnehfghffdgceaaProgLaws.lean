/- The exact laws of the programs' functions that answer a number or a bool: whatever program is given, the program answers as the model. -/
import Derived.Test.YtnehfghffdgceaaProgP
namespace Go.Proofs.Ytnehfghffdgceaa
open Go.RowKit Go

set_option maxHeartbeats 1000000 in
theorem fnExactProgramOk_walk (a : Option Addr) (p : List I4) (cap : Nat) (w : World) (hm : p.length ≤ maxLen) (hn : Nums w.heap.size w a (flat p)) :
    Calls Try.prog 3 #[.slice a p.length cap] w fun e w' => e = .returned (.bool true) ∧ Below w.heap.size w w' := by
  have hm' : p.length ≤ 9223372036854775807 := by unfold maxLen at hm; omega
  have HN := Lib.hid hn
  have hz := fun W => szP_any a p.length cap 1048576 W (by omega) (by omega) hm'
  clear hn hm
  by_cases hbig : 1048576 < p.length
  · rw [if_pos (by omega)] at hz
    replace hz := Lib.hid hz
    go_enter Try.func3, Try.ntmps3
    go_wp2_with fail
    refine (hz.out _).mono ?_
    rintro e w' ⟨rfl, rfl⟩
    go_wp2_with fail
    go_ret
    exact ⟨rfl, Below.refl _ _⟩
  · rw [if_neg (by omega)] at hz
    have hs : p.length ≤ 1048576 := by omega
    have hs2 : p.length ≤ 10000000 := by omega
    have hd : decide ((1048576 : Int) - (p.length : Int) < 0) = false := by simp; omega
    replace hz := Lib.hid hz
    have hrg := Lib.hid HN.out.1
    obtain ⟨v, hv⟩ : ∃ v, v = progOk p := ⟨_, rfl⟩
    have HV := Lib.hid hv
    clear hv
    go_enter Try.func3, Try.ntmps3
    go_wp2_with fail
    refine (hz.out _).mono ?_
    rintro e w' ⟨rfl, rfl⟩
    go_wp2_with fail
    refine (toInsS_any _ _ a p cap hs HN.out (Nat.le_refl _)).mono ?_
    rintro e w1 ⟨rfl, o1, b1⟩
    have N1 := Lib.hid (o1.nums hrg.out (Nat.le_refl _))
    have H1 := Lib.hid (HN.out.kept b1)
    have s1 := b1.size
    have A1 := Lib.hid b1
    clear o1 b1
    go_wp2_with fail
    refine (sProgramOk_any _ _ _ p _ hs2 N1.out (Nat.le_refl _)).mono ?_
    rw [← HV.out]
    rintro e w2 ⟨rfl, b2⟩
    have s2 := b2.size
    have H2 := Lib.hid (H1.out.kept (b2.mono s1))
    have A2 := Lib.hid (A1.out.trans (b2.mono s1))
    clear b2
    go_wp2_with fail
    refine (toInsS_any _ _ a p cap hs H2.out (by omega)).mono ?_
    rintro e w3 ⟨rfl, o3, b3⟩
    have s3 := b3.size
    have N3 := Lib.hid (o3.nums hrg.out (Nat.le_refl _))
    have H3 := Lib.hid (H2.out.kept (b3.mono (by omega)))
    have A3 := Lib.hid (A2.out.trans (b3.mono (by omega)))
    have O3 := Lib.hid o3
    clear o3 b3
    go_wp2_with fail
    refine (pProgramOk_any _ _ _ p _ hs2 N3.out (Nat.le_refl _)).mono ?_
    rw [← HV.out]
    rintro e w4 ⟨rfl, b4⟩
    have s4 := b4.size
    have H4 := Lib.hid (H3.out.kept (b4.mono (by omega)))
    have A4 := Lib.hid (A3.out.trans (b4.mono (by omega)))
    have O4 := Lib.hid (O3.out.below b4)
    clear b4
    go_wp2_with fail
    refine (toInsS_any _ _ a p cap hs H4.out (by omega)).mono ?_
    rintro e w5 ⟨rfl, o5, b5⟩
    have s5 := b5.size
    have N5 := Lib.hid (o5.nums hrg.out (Nat.le_refl _))
    have N4 := Lib.hid ((O4.out.below b5).nums hrg.out (Nat.le_refl _))
    have A5 := Lib.hid (A4.out.trans (b5.mono (by omega)))
    clear o5 b5
    go_wp2_with fail
    refine (eqP_same _ _ _ _ _ _ p _ hs2 N4.out N5.out (Nat.le_refl _) (Nat.le_refl _)).mono ?_
    rintro e w6 ⟨rfl, b6⟩
    have A6 := Lib.hid (A5.out.trans (b6.mono (by omega)))
    clear b6
    go_wp2_with fail
    go_ret
    exact ⟨rfl, A6.out⟩

set_option maxHeartbeats 1000000 in
theorem fnExactIsQuiet_walk (a : Option Addr) (p : List I4) (cap : Nat) (w : World) (hm : p.length ≤ maxLen) (hn : Nums w.heap.size w a (flat p)) :
    Calls Try.prog 4 #[.slice a p.length cap] w fun e w' => e = .returned (.bool true) ∧ Below w.heap.size w w' := by
  have hm' : p.length ≤ 9223372036854775807 := by unfold maxLen at hm; omega
  have HN := Lib.hid hn
  have hz := fun W => szP_any a p.length cap 1048576 W (by omega) (by omega) hm'
  clear hn hm
  by_cases hbig : 1048576 < p.length
  · rw [if_pos (by omega)] at hz
    replace hz := Lib.hid hz
    go_enter Try.func4, Try.ntmps4
    go_wp2_with fail
    refine (hz.out _).mono ?_
    rintro e w' ⟨rfl, rfl⟩
    go_wp2_with fail
    go_ret
    exact ⟨rfl, Below.refl _ _⟩
  · rw [if_neg (by omega)] at hz
    have hs : p.length ≤ 1048576 := by omega
    have hs2 : p.length ≤ 10000000 := by omega
    have hd : decide ((1048576 : Int) - (p.length : Int) < 0) = false := by simp; omega
    replace hz := Lib.hid hz
    have hrg := Lib.hid HN.out.1
    obtain ⟨v, hv⟩ : ∃ v, v = quietOk p := ⟨_, rfl⟩
    have HV := Lib.hid hv
    clear hv
    go_enter Try.func4, Try.ntmps4
    go_wp2_with fail
    refine (hz.out _).mono ?_
    rintro e w' ⟨rfl, rfl⟩
    go_wp2_with fail
    refine (toInsS_any _ _ a p cap hs HN.out (Nat.le_refl _)).mono ?_
    rintro e w1 ⟨rfl, o1, b1⟩
    have N1 := Lib.hid (o1.nums hrg.out (Nat.le_refl _))
    have H1 := Lib.hid (HN.out.kept b1)
    have s1 := b1.size
    have A1 := Lib.hid b1
    clear o1 b1
    go_wp2_with fail
    refine (sIsQuiet_any _ _ _ p _ hs2 N1.out (Nat.le_refl _)).mono ?_
    rw [← HV.out]
    rintro e w2 ⟨rfl, b2⟩
    have s2 := b2.size
    have H2 := Lib.hid (H1.out.kept (b2.mono s1))
    have A2 := Lib.hid (A1.out.trans (b2.mono s1))
    clear b2
    go_wp2_with fail
    refine (toInsS_any _ _ a p cap hs H2.out (by omega)).mono ?_
    rintro e w3 ⟨rfl, o3, b3⟩
    have s3 := b3.size
    have N3 := Lib.hid (o3.nums hrg.out (Nat.le_refl _))
    have H3 := Lib.hid (H2.out.kept (b3.mono (by omega)))
    have A3 := Lib.hid (A2.out.trans (b3.mono (by omega)))
    have O3 := Lib.hid o3
    clear o3 b3
    go_wp2_with fail
    refine (pIsQuiet_any _ _ _ p _ hs2 N3.out (Nat.le_refl _)).mono ?_
    rw [← HV.out]
    rintro e w4 ⟨rfl, b4⟩
    have s4 := b4.size
    have H4 := Lib.hid (H3.out.kept (b4.mono (by omega)))
    have A4 := Lib.hid (A3.out.trans (b4.mono (by omega)))
    have O4 := Lib.hid (O3.out.below b4)
    clear b4
    go_wp2_with fail
    refine (toInsS_any _ _ a p cap hs H4.out (by omega)).mono ?_
    rintro e w5 ⟨rfl, o5, b5⟩
    have s5 := b5.size
    have N5 := Lib.hid (o5.nums hrg.out (Nat.le_refl _))
    have N4 := Lib.hid ((O4.out.below b5).nums hrg.out (Nat.le_refl _))
    have A5 := Lib.hid (A4.out.trans (b5.mono (by omega)))
    clear o5 b5
    go_wp2_with fail
    refine (eqP_same _ _ _ _ _ _ p _ hs2 N4.out N5.out (Nat.le_refl _) (Nat.le_refl _)).mono ?_
    rintro e w6 ⟨rfl, b6⟩
    have A6 := Lib.hid (A5.out.trans (b6.mono (by omega)))
    clear b6
    go_wp2_with fail
    go_ret
    exact ⟨rfl, A6.out⟩

set_option maxHeartbeats 1000000 in
theorem fnExactCountOps_walk (a : Option Addr) (p : List I4) (cap : Nat) (n : Int) (w : World) (hm : p.length ≤ maxLen) (hn : Nums w.heap.size w a (flat p)) :
    Calls Try.prog 7 #[.slice a p.length cap, .int .i64 n] w fun e w' => e = .returned (.bool true) ∧ Below w.heap.size w w' := by
  have hm' : p.length ≤ 9223372036854775807 := by unfold maxLen at hm; omega
  have HN := Lib.hid hn
  have hz := fun W => szP_any a p.length cap 1048576 W (by omega) (by omega) hm'
  clear hn hm
  by_cases hbig : 1048576 < p.length
  · rw [if_pos (by omega)] at hz
    replace hz := Lib.hid hz
    go_enter Try.func7, Try.ntmps7
    go_wp2_with fail
    refine (hz.out _).mono ?_
    rintro e w' ⟨rfl, rfl⟩
    go_wp2_with fail
    go_ret
    exact ⟨rfl, Below.refl _ _⟩
  · rw [if_neg (by omega)] at hz
    have hs : p.length ≤ 1048576 := by omega
    have hs2 : p.length ≤ 10000000 := by omega
    have hd : decide ((1048576 : Int) - (p.length : Int) < 0) = false := by simp; omega
    replace hz := Lib.hid hz
    have hrg := Lib.hid HN.out.1
    obtain ⟨v, hv⟩ : ∃ v, v = ((cntO n p : Nat) : Int) := ⟨_, rfl⟩
    have HV := Lib.hid hv
    clear hv
    go_enter Try.func7, Try.ntmps7
    go_wp2_with fail
    refine (hz.out _).mono ?_
    rintro e w' ⟨rfl, rfl⟩
    go_wp2_with fail
    refine (toInsS_any _ _ a p cap hs HN.out (Nat.le_refl _)).mono ?_
    rintro e w1 ⟨rfl, o1, b1⟩
    have N1 := Lib.hid (o1.nums hrg.out (Nat.le_refl _))
    have H1 := Lib.hid (HN.out.kept b1)
    have s1 := b1.size
    have A1 := Lib.hid b1
    clear o1 b1
    go_wp2_with fail
    refine (sCountOps_any _ _ _ p _ n hs2 N1.out (Nat.le_refl _)).mono ?_
    rw [← HV.out]
    rintro e w2 ⟨rfl, b2⟩
    have s2 := b2.size
    have H2 := Lib.hid (H1.out.kept (b2.mono s1))
    have A2 := Lib.hid (A1.out.trans (b2.mono s1))
    clear b2
    go_wp2_with fail
    refine (toInsS_any _ _ a p cap hs H2.out (by omega)).mono ?_
    rintro e w3 ⟨rfl, o3, b3⟩
    have s3 := b3.size
    have N3 := Lib.hid (o3.nums hrg.out (Nat.le_refl _))
    have H3 := Lib.hid (H2.out.kept (b3.mono (by omega)))
    have A3 := Lib.hid (A2.out.trans (b3.mono (by omega)))
    have O3 := Lib.hid o3
    clear o3 b3
    go_wp2_with fail
    refine (pCountOps_any _ _ _ p _ n hs2 N3.out (Nat.le_refl _)).mono ?_
    rw [← HV.out]
    rintro e w4 ⟨rfl, b4⟩
    have s4 := b4.size
    have H4 := Lib.hid (H3.out.kept (b4.mono (by omega)))
    have A4 := Lib.hid (A3.out.trans (b4.mono (by omega)))
    have O4 := Lib.hid (O3.out.below b4)
    clear b4
    go_wp2_with fail
    refine (toInsS_any _ _ a p cap hs H4.out (by omega)).mono ?_
    rintro e w5 ⟨rfl, o5, b5⟩
    have s5 := b5.size
    have N5 := Lib.hid (o5.nums hrg.out (Nat.le_refl _))
    have N4 := Lib.hid ((O4.out.below b5).nums hrg.out (Nat.le_refl _))
    have A5 := Lib.hid (A4.out.trans (b5.mono (by omega)))
    clear o5 b5
    go_wp2_with fail
    refine (eqP_same _ _ _ _ _ _ p _ hs2 N4.out N5.out (Nat.le_refl _) (Nat.le_refl _)).mono ?_
    rintro e w6 ⟨rfl, b6⟩
    have A6 := Lib.hid (A5.out.trans (b6.mono (by omega)))
    clear b6
    go_wp2_with fail
    go_ret
    exact ⟨rfl, A6.out⟩

end Go.Proofs.Ytnehfghffdgceaa
