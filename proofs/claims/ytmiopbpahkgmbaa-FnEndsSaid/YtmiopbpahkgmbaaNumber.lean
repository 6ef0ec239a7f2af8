/- The contract of a draw of any number of an int's range. -/
import Derived.Test.YtmiopbpahkgmbaaDraw2
namespace Go.Proofs.Ytmiopbpahkgmbaa
open Go.RowKit Go

def i64P (x : Int) : Prop := -9223372036854775808 ≤ x ∧ x ≤ 9223372036854775807
theorem wrap_i64P (x : Int) : i64P (wrap64 x) := bounds_i64 (wrap64_wf x)

theorem big_any (w : World) (a : Option Addr) (len cap : Nat) : Calls Try.prog 12 #[.slice a len cap] w (fun e w' => e = .returned (.bool (decide (1048576 < (len : Int)))) ∧ w = w') := by
  go_enter Try.func12, Try.ntmps12
  go_wp2
  go_ret
  exact ⟨rfl, rfl⟩

end Go.Proofs.Ytmiopbpahkgmbaa
