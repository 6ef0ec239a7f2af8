/- laws.sameInts over equal rows. -/
import Derived.Test.YtmiopbpahkgmbaaInts
import Derived.Test.YtmiopbpahkgmbaaProgs
import Derived.Deep.RegionHeld3
namespace Go.Proofs.Ytmiopbpahkgmbaa
open Go.RowKit Go

set_option maxRecDepth 100000 in
set_option maxHeartbeats 1000000 in
theorem same_any (B : Nat) (w : World) (a1 a2 : Option Addr) (xs : List Int) (n c1 c2 : Nat) (hn : xs.length = n) (hl : n ≤ 10000000) (h1 : Nums B w a1 xs) (h2 : Nums B w a2 xs) (hB : B ≤ w.heap.size) :
    Calls Try.prog 25 #[.slice a1 n c1, .slice a2 n c2] w (Said (.bool true) w) := by
  have H1 := Lib.hid h1
  have H2 := Lib.hid h2
  have HN := Lib.hid hn
  clear h1 h2 hn
  go_enter Try.func25, Try.ntmps25
  go_wp2_with fail
  go_loopw [5] (fun i wr => ∃ k : Nat, k ≤ n ∧ i = .int .i64 k ∧ Below w.heap.size w wr) (fun i _ => n - (intOf i).toNat)
  case atStart => exact ⟨0, Nat.zero_le _, rfl, Below.refl _ _⟩
  case round =>
    obtain ⟨k, hk, rfl, hb⟩ := hrel
    have HB := Lib.hid hb
    have hsz := hb.size
    clear hb
    by_cases hlt : k < n
    · have hlt2 : k < xs.length := by rw [HN.out]; exact hlt
      obtain ⟨g1, o1, rfl, hg1, hc1⟩ := (H1.out.kept (HB.out.mono hB)).2 k hlt2
      obtain ⟨g2, o2, rfl, hg2, hc2⟩ := (H2.out.kept (HB.out.mono hB)).2 k hlt2
      generalize xs[k] = x at *
      have k0 : (0 : Int) ≤ (k : Int) := Int.natCast_nonneg _
      have k1 : (k : Int) < (n : Int) := by omega
      clear hlt2
      go_wp2_with fail
      go_quiet (fail)
      go_wp2_with fail
      go_roundw
      case rel => exact ⟨k + 1, hlt, by go_num, HB.out.trans (below_drewN _ _ _)⟩
      case measure => simp [intOf]; omega
    · obtain rfl : k = n := by omega
      go_wp2_with fail
      go_ret
      exact ⟨rfl, HB.out⟩

end Go.Proofs.Ytmiopbpahkgmbaa
