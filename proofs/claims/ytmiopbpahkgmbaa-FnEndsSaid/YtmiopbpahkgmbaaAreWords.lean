/- Whether all numbers of a row are words: the program's and the model's. -/
import Derived.Test.YtmiopbpahkgmbaaWords
import Derived.Test.YtmiopbpahkgmbaaInts
namespace Go.Proofs.Ytmiopbpahkgmbaa
open Go.RowKit Go

theorem areW_take {xs : List Int} {k : Nat} (hk : k < xs.length) (h : ∀ x ∈ xs.take k, isW x = true) (hx : isW xs[k] = true) : ∀ x ∈ xs.take (k + 1), isW x = true := by
  intro x hm
  rw [List.take_succ_eq_append_getElem hk, List.mem_append, List.mem_singleton] at hm
  rcases hm with hm | rfl
  · exact h x hm
  · exact hx
theorem areW_no {xs : List Int} {k : Nat} (hk : k < xs.length) (hx : isW xs[k] = false) : xs.all isW = false := by
  rw [List.all_eq_false]
  exact ⟨_, List.getElem_mem hk, by rw [hx]; simp⟩
theorem areW_yes {xs : List Int} (h : ∀ x ∈ xs.take xs.length, isW x = true) : xs.all isW = true := by
  rw [List.all_eq_true]
  rwa [List.take_length] at h

set_option maxRecDepth 100000 in
set_option maxHeartbeats 400000 in
theorem pAreWords_any (B : Nat) (w : World) (a : Option Addr) (xs : List Int) (cap : Nat) (hl : xs.length ≤ 10000000) (h : Nums B w a xs) :
    Calls Try.prog 19 #[.slice a xs.length cap] w (fun e w' => e = .returned (.bool (xs.all isW)) ∧ w = w') := by
  have HH := Lib.hid h
  clear h
  go_enter Try.func19, Try.ntmps19
  go_wp2_with fail
  go_loop [7] (fun i => ∃ k : Nat, k ≤ xs.length ∧ i = .int .i64 k ∧ ∀ x ∈ xs.take k, isW x = true) (fun i => xs.length - (intOf i).toNat)
  case atStart => exact ⟨0, Nat.zero_le _, rfl, by simp⟩
  case round =>
    obtain ⟨k, hk, rfl, hr⟩ := hrel
    have HR := Lib.hid hr
    clear hr
    by_cases hlt : k < xs.length
    · obtain ⟨g, off, rfl, _, hc⟩ := HH.out.2 k hlt
      have Hno := Lib.hid (areW_no hlt)
      have Hyes := Lib.hid (areW_take hlt HR.out)
      generalize xs[k] = x at *
      cases hx : isW x with
      | true =>
        have HX := Lib.hid hx
        clear hx
        go_wp2_with fail
        refine (pIsWord_any x _).mono ?_
        rw [HX.out]
        rintro e w' ⟨rfl, rfl⟩
        go_wp2_with fail
        go_round
        case rel => exact ⟨k + 1, hlt, by go_num, Hyes.out HX.out⟩
        case measure => simp [intOf]; omega
      | false =>
        have HX := Lib.hid hx
        clear hx
        go_wp2_with fail
        refine (pIsWord_any x _).mono ?_
        rw [HX.out]
        rintro e w' ⟨rfl, rfl⟩
        go_wp2_with fail
        go_ret
        exact ⟨ret_bool (Hno.out HX.out).symm, rfl⟩
    · obtain rfl : k = xs.length := by omega
      go_wp2_with fail
      go_ret
      exact ⟨ret_bool (areW_yes HR.out).symm, rfl⟩

set_option maxRecDepth 100000 in
set_option maxHeartbeats 400000 in
theorem sAreWords_any (B : Nat) (w : World) (a : Option Addr) (xs : List Int) (cap : Nat) (hl : xs.length ≤ 10000000) (h : Nums B w a xs) :
    Calls Try.prog 94 #[.slice a xs.length cap] w (fun e w' => e = .returned (.bool (xs.all isW)) ∧ w = w') := by
  have HH := Lib.hid h
  clear h
  go_enter Try.func94, Try.ntmps94
  go_wp2_with fail
  go_loop [3] (fun i => ∃ k : Nat, k ≤ xs.length ∧ i = .int .i64 k ∧ ∀ x ∈ xs.take k, isW x = true) (fun i => xs.length - (intOf i).toNat)
  case atStart => exact ⟨0, Nat.zero_le _, rfl, by simp⟩
  case round =>
    obtain ⟨k, hk, rfl, hr⟩ := hrel
    have HR := Lib.hid hr
    clear hr
    by_cases hlt : k < xs.length
    · obtain ⟨g, off, rfl, _, hc⟩ := HH.out.2 k hlt
      have Hno := Lib.hid (areW_no hlt)
      have Hyes := Lib.hid (areW_take hlt HR.out)
      generalize xs[k] = x at *
      cases hx : isW x with
      | true =>
        have HX := Lib.hid hx
        clear hx
        go_wp2_with fail
        refine (sIsWord_any x _).mono ?_
        rw [HX.out]
        rintro e w' ⟨rfl, rfl⟩
        go_wp2_with fail
        go_round
        case rel => exact ⟨k + 1, hlt, by go_num, Hyes.out HX.out⟩
        case measure => simp [intOf]; omega
      | false =>
        have HX := Lib.hid hx
        clear hx
        go_wp2_with fail
        refine (sIsWord_any x _).mono ?_
        rw [HX.out]
        rintro e w' ⟨rfl, rfl⟩
        go_wp2_with fail
        go_ret
        exact ⟨ret_bool (Hno.out HX.out).symm, rfl⟩
    · obtain rfl : k = xs.length := by omega
      go_wp2_with fail
      go_ret
      exact ⟨ret_bool (areW_yes HR.out).symm, rfl⟩

end Go.Proofs.Ytmiopbpahkgmbaa
