/- Whether all numbers of a row are words: the program's and the model's. -/
import Derived.Test.YthanhmjohbjohaaWords
import Derived.Test.YthanhmjohbjohaaInts
namespace Go.Proofs.Ythanhmjohbjohaa
open Go.RowKit Go

theorem areW_take {xs : List Int} {k : Nat} (hk : k < xs.length) (h : ∀ x ∈ xs.take k, isW x = true) (hx : isW xs[k] = true) : ∀ x ∈ xs.take (k + 1), isW x = true := by
  intro x hm
  rw [List.take_succ_eq_append_getElem hk, List.mem_append, List.mem_singleton] at hm
  rcases hm with hm | rfl
  · exact h x hm
  · exact hx
theorem areW_no {xs : List Int} {k : Nat} (hk : k < xs.length) (hx : isW xs[k] = false) : xs.all isW = false := by
  rw [List.all_eq_false]
  exact ⟨_, List.getElem_mem hk, by rw [hx]; simp⟩
theorem areW_yes {xs : List Int} (h : ∀ x ∈ xs.take xs.length, isW x = true) : xs.all isW = true := by
  rw [List.all_eq_true]
  rwa [List.take_length] at h

set_option maxHeartbeats 400000 in
theorem pAreWords_any (B : Nat) (w : World) (a : Option Addr) (xs : List Int) (cap : Nat) (hl : xs.length ≤ 10000000) (h : Nums B w a xs) :
    Calls Try.prog 20 #[.slice a xs.length cap] w (fun e w' => e = .returned (.bool (xs.all isW)) ∧ w = w') := by
  have HH := Lib.hid h
  clear h
  go_enter Try.func20, Try.ntmps20
  go_wp2_with fail
  go_loop [7] (fun i => ∃ k : Nat, k ≤ xs.length ∧ i = .int .i64 k ∧ ∀ x ∈ xs.take k, isW x = true) (fun i => xs.length - (intOf i).toNat)
  case atStart => exact ⟨0, Nat.zero_le _, rfl, by simp⟩
  case round =>
    obtain ⟨k, hk, rfl, hr⟩ := hrel
    have HR := Lib.hid hr
    clear hr
    by_cases hlt : k < xs.length
    · obtain ⟨g, off, rfl, _, hc⟩ := HH.out.2 k hlt
      have Hno := Lib.hid (areW_no hlt)
      have Hyes := Lib.hid (areW_take hlt HR.out)
      generalize xs[k] = x at *
      cases hx : isW x with
      | true =>
        have HX := Lib.hid hx
        clear hx
        go_wp2_with fail
        refine (pIsWord_any x _).mono ?_
        rw [HX.out]
        rintro e w' ⟨rfl, rfl⟩
        go_wp2_with fail
        go_round
        case rel => exact ⟨k + 1, hlt, by go_num, Hyes.out HX.out⟩
        case measure => simp [intOf]; omega
      | false =>
        have HX := Lib.hid hx
        clear hx
        go_wp2_with fail
        refine (pIsWord_any x _).mono ?_
        rw [HX.out]
        rintro e w' ⟨rfl, rfl⟩
        go_wp2_with fail
        go_ret
        exact ⟨ret_bool (Hno.out HX.out).symm, rfl⟩
    · obtain rfl : k = xs.length := by omega
      go_wp2_with fail
      go_ret
      exact ⟨ret_bool (areW_yes HR.out).symm, rfl⟩

set_option maxHeartbeats 400000 in
theorem sAreWords_any (B : Nat) (w : World) (a : Option Addr) (xs : List Int) (cap : Nat) (hl : xs.length ≤ 10000000) (h : Nums B w a xs) :
    Calls Try.prog 27 #[.slice a xs.length cap] w (fun e w' => e = .returned (.bool (xs.all isW)) ∧ w = w') := by
  have HH := Lib.hid h
  clear h
  go_enter Try.func27, Try.ntmps27
  go_wp2_with fail
  go_loop [3] (fun i => ∃ k : Nat, k ≤ xs.length ∧ i = .int .i64 k ∧ ∀ x ∈ xs.take k, isW x = true) (fun i => xs.length - (intOf i).toNat)
  case atStart => exact ⟨0, Nat.zero_le _, rfl, by simp⟩
  case round =>
    obtain ⟨k, hk, rfl, hr⟩ := hrel
    have HR := Lib.hid hr
    clear hr
    by_cases hlt : k < xs.length
    · obtain ⟨g, off, rfl, _, hc⟩ := HH.out.2 k hlt
      have Hno := Lib.hid (areW_no hlt)
      have Hyes := Lib.hid (areW_take hlt HR.out)
      generalize xs[k] = x at *
      cases hx : isW x with
      | true =>
        have HX := Lib.hid hx
        clear hx
        go_wp2_with fail
        refine (sIsWord_any x _).mono ?_
        rw [HX.out]
        rintro e w' ⟨rfl, rfl⟩
        go_wp2_with fail
        go_round
        case rel => exact ⟨k + 1, hlt, by go_num, Hyes.out HX.out⟩
        case measure => simp [intOf]; omega
      | false =>
        have HX := Lib.hid hx
        clear hx
        go_wp2_with fail
        refine (sIsWord_any x _).mono ?_
        rw [HX.out]
        rintro e w' ⟨rfl, rfl⟩
        go_wp2_with fail
        go_ret
        exact ⟨ret_bool (Hno.out HX.out).symm, rfl⟩
    · obtain rfl : k = xs.length := by omega
      go_wp2_with fail
      go_ret
      exact ⟨ret_bool (areW_yes HR.out).symm, rfl⟩

set_option maxHeartbeats 400000 in
theorem fnExactAreWords_walk (a : Option Addr) (len cap : Nat) (zs : List Int) (w : World) (hr : IsRow .i64 w a len cap zs) :
    Calls Try.prog 10 #[.slice a len cap] w fun e w' => e = .returned (.bool true) ∧ Below w.heap.size w w' := by
  obtain ⟨xs, rfl, hm, hn⟩ := hr.nums
  have hm' : xs.length ≤ 9223372036854775807 := by unfold maxLen at hm; omega
  have HN := Lib.hid hn
  clear hn hr hm
  by_cases hbig : 1048576 < xs.length
  · go_enter Try.func10, Try.ntmps10
    go_wp2_with fail
    go_ret
    exact ⟨rfl, Below.refl _ _⟩
  · have hs : xs.length ≤ 1048576 := by omega
    have hs2 : xs.length ≤ 10000000 := by omega
    have hrg : Hid (∀ x ∈ xs, i64R x) := Lib.hid HN.out.1
    obtain ⟨b, hb⟩ : ∃ b, b = xs.all isW := ⟨_, rfl⟩
    have HB := Lib.hid hb
    clear hb
    go_enter Try.func10, Try.ntmps10
    go_wp2_with fail
    refine (toIntS_any _ _ a xs cap hs HN.out (Nat.le_refl _)).mono ?_
    rintro e w1 ⟨rfl, o1, b1⟩
    have N1 := Lib.hid (o1.nums hrg.out (Nat.le_refl _))
    have H1 := Lib.hid (HN.out.kept b1)
    have s1 := b1.size
    clear o1
    go_wp2_with fail
    refine (sAreWords_any _ _ _ xs _ hs2 N1.out).mono ?_
    rw [← HB.out]
    rintro e w' ⟨rfl, rfl⟩
    go_wp2_with fail
    refine (toIntS_any _ _ a xs cap hs H1.out s1).mono ?_
    rintro e w2 ⟨rfl, o2, b2⟩
    have N2 := Lib.hid (o2.nums hrg.out (Nat.le_refl _))
    have H2 := Lib.hid (H1.out.kept (b2.mono s1))
    have O2 := Lib.hid o2
    have s2 := b2.size
    clear o2
    go_wp2_with fail
    refine (pAreWords_any _ _ _ xs _ hs2 N2.out).mono ?_
    rw [← HB.out]
    rintro e w' ⟨rfl, rfl⟩
    go_wp2_with fail
    refine (toIntS_any _ _ a xs cap hs H2.out (by omega)).mono ?_
    rintro e w3 ⟨rfl, o3, b3⟩
    have N3 := Lib.hid (o3.nums hrg.out (Nat.le_refl _))
    have N2' := Lib.hid ((O2.out.below b3).nums hrg.out (Nat.le_refl _))
    clear o3
    go_wp2_with fail
    refine (eqI_same _ _ _ _ _ _ xs _ hs2 N2'.out N3.out).mono ?_
    rintro e w' ⟨rfl, m, rfl⟩
    go_wp2_with fail
    go_ret
    exact ⟨rfl, ((b1.trans (b2.mono s1)).trans (b3.mono (by omega))).trans (below_drewN _ _ _)⟩

end Go.Proofs.Ythanhmjohbjohaa
