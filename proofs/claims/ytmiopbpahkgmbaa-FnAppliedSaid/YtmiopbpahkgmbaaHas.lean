/- The laws' own search in a row of numbers. -/
import Derived.Test.YtmiopbpahkgmbaaInts
namespace Go.Proofs.Ytmiopbpahkgmbaa
open Go.RowKit Go

theorem ret_boolH {a b : Bool} (h : a = b) : Ending.returned (.bool a) = .returned (.bool b) := by rw [h]

/-- Is v one of the numbers? -/
def inL (xs : List Int) (v : Int) : Bool := xs.contains v

theorem has_no {xs : List Int} {k : Nat} {v : Int} (hk : k < xs.length) (h : ∀ x ∈ xs.take k, (x == v) = false) (hx : (xs[k] == v) = false) : ∀ x ∈ xs.take (k + 1), (x == v) = false := by
  intro x hm
  rw [List.take_succ_eq_append_getElem hk, List.mem_append, List.mem_singleton] at hm
  rcases hm with hm | rfl
  · exact h x hm
  · exact hx
theorem has_yes {xs : List Int} {k : Nat} {v : Int} (hk : k < xs.length) (hx : (xs[k] == v) = true) : inL xs v = true := by
  unfold inL
  rw [List.contains_iff_mem, ← eq_of_beq hx]
  exact List.getElem_mem hk
theorem has_none {xs : List Int} {v : Int} (h : ∀ x ∈ xs.take xs.length, (x == v) = false) : inL xs v = false := by
  unfold inL
  rw [List.take_length] at h
  cases hc : xs.contains v with
  | false => rfl
  | true => have := h v (List.contains_iff_mem.1 hc); simp at this

set_option maxRecDepth 100000 in
set_option maxHeartbeats 400000 in
theorem has_any (B : Nat) (w : World) (a : Option Addr) (xs : List Int) (cap : Nat) (v : Int) (hl : xs.length ≤ 10000000) (h : Nums B w a xs) :
    Calls Try.prog 18 #[.slice a xs.length cap, .int .i64 v] w (fun e w' => e = .returned (.bool (inL xs v)) ∧ w = w') := by
  have HH := Lib.hid h
  clear h
  go_enter Try.func18, Try.ntmps18
  go_wp2_with fail
  go_loop [5] (fun i => ∃ k : Nat, k ≤ xs.length ∧ i = .int .i64 k ∧ ∀ x ∈ xs.take k, (x == v) = false) (fun i => xs.length - (intOf i).toNat)
  case atStart => exact ⟨0, Nat.zero_le _, rfl, by simp⟩
  case round =>
    obtain ⟨k, hk, rfl, hr⟩ := hrel
    have HR := Lib.hid hr
    clear hr
    by_cases hlt : k < xs.length
    · obtain ⟨g, off, rfl, _, hc⟩ := HH.out.2 k hlt
      have Hno := Lib.hid (has_no (v := v) hlt HR.out)
      have Hyes := Lib.hid (has_yes (v := v) hlt)
      generalize xs[k] = x at *
      cases hx : (x == v) with
      | true =>
        go_wp2_with fail
        go_ret
        exact ⟨ret_boolH (Hyes.out hx).symm, rfl⟩
      | false =>
        go_wp2_with fail
        go_round
        case rel => exact ⟨k + 1, hlt, by go_num, Hno.out hx⟩
        case measure => simp [intOf]; omega
    · obtain rfl : k = xs.length := by omega
      go_wp2_with fail
      go_ret
      exact ⟨ret_boolH (has_none HR.out).symm, rfl⟩

end Go.Proofs.Ytmiopbpahkgmbaa
