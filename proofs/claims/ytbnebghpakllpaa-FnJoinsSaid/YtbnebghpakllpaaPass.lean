/- slices.IndexFunc, slices.ContainsFunc, slices.DeleteFunc over rows of numbers, whatever function value is handed over: it may make memory of its own, and it may turn what it captured. -/
import Derived.Test.YtbnebghpakllpaaBools
import Derived.Lib.SliceRun
namespace Go.Proofs.Ytbnebghpakllpaa
open Go.RowKit Go

/-- A function value's number is found. -/
def EntersAt (g : FuncId) : Prop := ∀ args w, (callFunc g args).run Try.prog w = .ok (.enter g args) w

/-- What is asked of a function value along a row: while it says no, Inv goes on; where it says yes, Hit holds. -/
def AskedAt (g : FuncId) (lb : Array Value) (xs : List Int) (Inv Hit : Nat → World → Prop) : Prop :=
  ∀ j (hj : j < xs.length) W, Inv j W → Calls Try.prog g (#[.int .i64 xs[j]] ++ lb) W (fun e w' => ∃ r, e = .returned (.bool r) ∧ (r = true → Hit j w') ∧ (r = false → Inv (j + 1) w'))

/-- What IndexFunc says. -/
def IndexSaid (n : Nat) (Inv Hit : Nat → World → Prop) (e : Ending) (w' : World) : Prop :=
  (∃ j : Nat, j < n ∧ e = .returned (.int .i64 (j : Int)) ∧ Hit j w') ∨ (e = .returned (.int .i64 (-1)) ∧ Inv n w')

set_option maxRecDepth 100000 in
set_option maxHeartbeats 1000000 in
theorem pIndexFunc_any (g : FuncId) (lb : Array Value) (eg : EntersAt g) (w : World) (a : Option Addr) (cap : Nat) (xs : List Int) (hl : xs.length ≤ 1000000) (Inv Hit : Nat → World → Prop)
    (hread : ∀ j W, Inv j W → ∃ B, Nums B W a xs) (hcall : AskedAt g lb xs Inv Hit) (h0 : Inv 0 w) :
    Calls Try.prog 80 #[.slice a xs.length cap, .func (.func g) #[] lb] w (IndexSaid xs.length Inv Hit) := by
  have HC := Lib.hid hcall
  have HRd := Lib.hid hread
  have H0 := Lib.hid h0
  unfold EntersAt at eg
  clear hcall hread h0
  go_enter Try.func80, Try.ntmps80
  go_wp2_with fail
  go_loopw [5, 8] (fun _ i wr => ∃ j : Nat, j ≤ xs.length ∧ i = .int .i64 j ∧ Hid (Inv j wr)) (fun _ i _ => xs.length - (intOf i).toNat)
  case atStart => exact ⟨0, Nat.zero_le _, rfl, H0⟩
  case round =>
    obtain ⟨j, hj, rfl, HI⟩ := hrel
    by_cases hlt : j < xs.length
    · obtain ⟨B, hN⟩ := HRd.out j wr HI.out
      obtain ⟨gb, off, rfl, hg, hc⟩ := hN.2 j hlt
      have h1 := Lib.hid (HC.out j hlt wr HI.out)
      generalize xs[j] = x at *
      clear hN
      go_wp2_with fail
      refine h1.out.mono ?_
      rintro e w1 ⟨r, rfl, ht, hf⟩
      cases r with
      | true =>
        have HT := Lib.hid (ht rfl)
        clear ht hf
        go_wp2_with fail
        go_ret
        exact .inl ⟨j, hlt, rfl, HT.out⟩
      | false =>
        have HF := Lib.hid (hf rfl)
        clear ht hf
        go_wp2_with fail
        go_roundw
        case rel => exact ⟨j + 1, hlt, by go_num, HF⟩
        case measure => simp [intOf]; omega
    · obtain rfl : j = xs.length := by omega
      go_wp2_with fail
      go_ret
      exact .inr ⟨rfl, HI.out⟩

/-- What ContainsFunc says. -/
def ContainsSaid (n : Nat) (Inv Hit : Nat → World → Prop) (e : Ending) (w' : World) : Prop :=
  (∃ j : Nat, j < n ∧ e = .returned (.bool true) ∧ Hit j w') ∨ (e = .returned (.bool false) ∧ Inv n w')

set_option maxRecDepth 100000 in
set_option maxHeartbeats 400000 in
theorem pContainsFunc_any (g : FuncId) (lb : Array Value) (eg : EntersAt g) (w : World) (a : Option Addr) (cap : Nat) (xs : List Int) (hl : xs.length ≤ 1000000) (Inv Hit : Nat → World → Prop)
    (hread : ∀ j W, Inv j W → ∃ B, Nums B W a xs) (hcall : AskedAt g lb xs Inv Hit) (h0 : Inv 0 w) :
    Calls Try.prog 57 #[.slice a xs.length cap, .func (.func g) #[] lb] w (ContainsSaid xs.length Inv Hit) := by
  have h1 := Lib.hid (pIndexFunc_any g lb eg w a cap xs hl Inv Hit hread hcall h0)
  clear hcall hread h0
  go_enter Try.func57, Try.ntmps57
  go_wp2_with fail
  refine h1.out.mono ?_
  rintro e w1 (⟨j, hj, rfl, hh⟩ | ⟨rfl, hi⟩)
  · have HH := Lib.hid hh
    clear hh
    go_wp2_with fail
    go_ret
    exact .inl ⟨j, hj, ret_bool (by simp), HH.out⟩
  · have HI := Lib.hid hi
    clear hi
    go_wp2_with fail
    go_ret
    exact .inr ⟨rfl, HI.out⟩

end Go.Proofs.Ytbnebghpakllpaa
