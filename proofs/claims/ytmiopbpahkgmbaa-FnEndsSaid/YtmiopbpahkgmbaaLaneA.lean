/- Lanes: the program's operations, one by one, the table that names them, and what is asked of a lane. -/
import Derived.Test.YtmiopbpahkgmbaaLaneS
import Derived.Test.YtmiopbpahkgmbaaChecks
import Derived.Test.YtmiopbpahkgmbaaProgP
namespace Go.Proofs.Ytmiopbpahkgmbaa
open Go.RowKit Go

set_option maxRecDepth 100000 in
set_option maxHeartbeats 1000000 in
theorem pConstant_any (w : World) (t pc o : Int) (a b c : Int) (g off cap : Nat) :
    Calls Try.prog 102 #[.agg #[.int .i64 t, .int .i64 pc, .slice (some ⟨g, off, none⟩) 4 cap], .agg #[.int .i64 o, .int .i64 a, .int .i64 b, .int .i64 c]] w (Said (.int .i64 b) w) := by
  go_enter Try.func102, Try.ntmps102
  go_wp2_with fail
  go_ret
  exact ⟨rfl, below2 _ _ _⟩

set_option maxRecDepth 100000 in
set_option maxHeartbeats 1000000 in
theorem pNumber_any (w : World) (t pc o : Int) (a b c : Int) (g off cap : Nat) :
    Calls Try.prog 109 #[.agg #[.int .i64 t, .int .i64 pc, .slice (some ⟨g, off, none⟩) 4 cap], .agg #[.int .i64 o, .int .i64 a, .int .i64 b, .int .i64 c]] w (Said (.int .i64 t) w) := by
  go_enter Try.func109, Try.ntmps109
  go_wp2_with fail
  go_ret
  exact ⟨rfl, below2 _ _ _⟩

set_option maxRecDepth 100000 in
set_option maxHeartbeats 1000000 in
theorem pMoved_any (w : World) (t pc o : Int) (a : Int) (b : Nat) (c y : Int) (g off cap : Nat) (hb : b < 4) (hg : g < w.heap.size) (hy : w.cell? ⟨g, off + b, none⟩ = some (.int .i64 y)) :
    Calls Try.prog 103 #[.agg #[.int .i64 t, .int .i64 pc, .slice (some ⟨g, off, none⟩) 4 cap], .agg #[.int .i64 o, .int .i64 a, .int .i64 b, .int .i64 c]] w (Said (.int .i64 y) w) := by
  have b0 : (0 : Int) ≤ (b : Int) := Int.natCast_nonneg _
  have b1 : (b : Int) < 4 := by omega
  go_enter Try.func103, Try.ntmps103
  go_wp2_with fail
  go_ret
  exact ⟨rfl, below2 _ _ _⟩

set_option maxRecDepth 100000 in
set_option maxHeartbeats 1000000 in
theorem pSum_any (w : World) (t pc o : Int) (a : Int) (b c : Nat) (y z : Int) (g off cap : Nat) (hb : b < 4) (hc : c < 4) (hg : g < w.heap.size) (hy : w.cell? ⟨g, off + b, none⟩ = some (.int .i64 y)) (hz : w.cell? ⟨g, off + c, none⟩ = some (.int .i64 z)) :
    Calls Try.prog 104 #[.agg #[.int .i64 t, .int .i64 pc, .slice (some ⟨g, off, none⟩) 4 cap], .agg #[.int .i64 o, .int .i64 a, .int .i64 b, .int .i64 c]] w (Said (.int .i64 (addW y z)) w) := by
  have b0 : (0 : Int) ≤ (b : Int) := Int.natCast_nonneg _
  have b1 : (b : Int) < 4 := by omega
  have c0 : (0 : Int) ≤ (c : Int) := Int.natCast_nonneg _
  have c1 : (c : Int) < 4 := by omega
  have HW := Lib.hid (fun W => pAdd_any y z W)
  generalize addW y z = u at *
  go_enter Try.func104, Try.ntmps104
  go_wp2_with fail
  go_quiet ((go_at_call 129; refine Calls.quiet_of_same ((HW.out _).mono fun _ _ h => ⟨h.1, h.2.symm⟩)))
  go_wp2_with fail
  go_ret
  exact ⟨rfl, (below2 _ _ _).trans (below_drewN _ _ _)⟩

set_option maxRecDepth 100000 in
set_option maxHeartbeats 1000000 in
theorem pDifference_any (w : World) (t pc o : Int) (a : Int) (b c : Nat) (y z : Int) (g off cap : Nat) (hb : b < 4) (hc : c < 4) (hg : g < w.heap.size) (hy : w.cell? ⟨g, off + b, none⟩ = some (.int .i64 y)) (hz : w.cell? ⟨g, off + c, none⟩ = some (.int .i64 z)) :
    Calls Try.prog 105 #[.agg #[.int .i64 t, .int .i64 pc, .slice (some ⟨g, off, none⟩) 4 cap], .agg #[.int .i64 o, .int .i64 a, .int .i64 b, .int .i64 c]] w (Said (.int .i64 (subW y z)) w) := by
  have b0 : (0 : Int) ≤ (b : Int) := Int.natCast_nonneg _
  have b1 : (b : Int) < 4 := by omega
  have c0 : (0 : Int) ≤ (c : Int) := Int.natCast_nonneg _
  have c1 : (c : Int) < 4 := by omega
  have HW := Lib.hid (fun W => pSub_any y z W)
  generalize subW y z = u at *
  go_enter Try.func105, Try.ntmps105
  go_wp2_with fail
  go_quiet ((go_at_call 130; refine Calls.quiet_of_same ((HW.out _).mono fun _ _ h => ⟨h.1, h.2.symm⟩)))
  go_wp2_with fail
  go_ret
  exact ⟨rfl, (below2 _ _ _).trans (below_drewN _ _ _)⟩

set_option maxRecDepth 100000 in
set_option maxHeartbeats 1000000 in
theorem pProduct_any (w : World) (t pc o : Int) (a : Int) (b c : Nat) (y z : Int) (g off cap : Nat) (hb : b < 4) (hc : c < 4) (hg : g < w.heap.size) (hy : w.cell? ⟨g, off + b, none⟩ = some (.int .i64 y)) (hz : w.cell? ⟨g, off + c, none⟩ = some (.int .i64 z)) :
    Calls Try.prog 106 #[.agg #[.int .i64 t, .int .i64 pc, .slice (some ⟨g, off, none⟩) 4 cap], .agg #[.int .i64 o, .int .i64 a, .int .i64 b, .int .i64 c]] w (Said (.int .i64 (mulW y z)) w) := by
  have b0 : (0 : Int) ≤ (b : Int) := Int.natCast_nonneg _
  have b1 : (b : Int) < 4 := by omega
  have c0 : (0 : Int) ≤ (c : Int) := Int.natCast_nonneg _
  have c1 : (c : Int) < 4 := by omega
  have HW := Lib.hid (fun W => pMul_any y z W)
  generalize mulW y z = u at *
  go_enter Try.func106, Try.ntmps106
  go_wp2_with fail
  go_quiet ((go_at_call 131; refine Calls.quiet_of_same ((HW.out _).mono fun _ _ h => ⟨h.1, h.2.symm⟩)))
  go_wp2_with fail
  go_ret
  exact ⟨rfl, (below2 _ _ _).trans (below_drewN _ _ _)⟩

set_option maxRecDepth 100000 in
set_option maxHeartbeats 1000000 in
theorem pLessL_any (w : World) (t pc o : Int) (a : Int) (b c : Nat) (y z : Int) (g off cap : Nat) (hb : b < 4) (hc : c < 4) (hg : g < w.heap.size) (hy : w.cell? ⟨g, off + b, none⟩ = some (.int .i64 y)) (hz : w.cell? ⟨g, off + c, none⟩ = some (.int .i64 z)) :
    Calls Try.prog 108 #[.agg #[.int .i64 t, .int .i64 pc, .slice (some ⟨g, off, none⟩) 4 cap], .agg #[.int .i64 o, .int .i64 a, .int .i64 b, .int .i64 c]] w (Said (.int .i64 (lessW y z)) w) := by
  have b0 : (0 : Int) ≤ (b : Int) := Int.natCast_nonneg _
  have b1 : (b : Int) < 4 := by omega
  have c0 : (0 : Int) ≤ (c : Int) := Int.natCast_nonneg _
  have c1 : (c : Int) < 4 := by omega
  have HW := Lib.hid (fun W => pLessW_any y z W)
  generalize lessW y z = u at *
  go_enter Try.func108, Try.ntmps108
  go_wp2_with fail
  go_quiet ((go_at_call 132; refine Calls.quiet_of_same ((HW.out _).mono fun _ _ h => ⟨h.1, h.2.symm⟩)))
  go_wp2_with fail
  go_ret
  exact ⟨rfl, (below2 _ _ _).trans (below_drewN _ _ _)⟩

set_option maxRecDepth 100000 in
set_option maxHeartbeats 1000000 in
theorem pExclusive_any (w : World) (t pc o : Int) (a : Int) (b c : Nat) (y z : Int) (g off cap : Nat) (hb : b < 4) (hc : c < 4) (hg : g < w.heap.size) (hy : w.cell? ⟨g, off + b, none⟩ = some (.int .i64 y)) (hz : w.cell? ⟨g, off + c, none⟩ = some (.int .i64 z)) :
    Calls Try.prog 107 #[.agg #[.int .i64 t, .int .i64 pc, .slice (some ⟨g, off, none⟩) 4 cap], .agg #[.int .i64 o, .int .i64 a, .int .i64 b, .int .i64 c]] w (Said (.int .i64 (xorW y z)) w) := by
  have b0 : (0 : Int) ≤ (b : Int) := Int.natCast_nonneg _
  have b1 : (b : Int) < 4 := by omega
  have c0 : (0 : Int) ≤ (c : Int) := Int.natCast_nonneg _
  have c1 : (c : Int) < 4 := by omega
  go_enter Try.func107, Try.ntmps107
  go_wp2_with fail
  go_quiet (fail)
  go_wp2_with fail
  go_ret
  exact ⟨rfl, (below2 _ _ _).trans (below_drewN _ _ _)⟩

set_option maxRecDepth 100000 in
set_option maxHeartbeats 1000000 in
theorem pPicked_yes (w : World) (t pc o : Int) (a : Int) (b c : Nat) (y z : Int) (g off cap : Nat) (hb : b < 4) (hc : c < 4) (hg : g < w.heap.size) (hy : w.cell? ⟨g, off + b, none⟩ = some (.int .i64 y)) (hz : w.cell? ⟨g, off + c, none⟩ = some (.int .i64 z)) (hne : ¬ z = 0) :
    Calls Try.prog 110 #[.agg #[.int .i64 t, .int .i64 pc, .slice (some ⟨g, off, none⟩) 4 cap], .agg #[.int .i64 o, .int .i64 a, .int .i64 b, .int .i64 c]] w (Said (.int .i64 y) w) := by
  have b0 : (0 : Int) ≤ (b : Int) := Int.natCast_nonneg _
  have b1 : (b : Int) < 4 := by omega
  have c0 : (0 : Int) ≤ (c : Int) := Int.natCast_nonneg _
  have c1 : (c : Int) < 4 := by omega
  have hn : (z == 0) = false := by simpa using hne
  clear hne
  go_enter Try.func110, Try.ntmps110
  go_wp2_with fail
  go_ret
  exact ⟨rfl, below2 _ _ _⟩

set_option maxRecDepth 100000 in
set_option maxHeartbeats 1000000 in
theorem pPicked_no (w : World) (t pc o : Int) (a : Nat) (b : Int) (c : Nat) (x : Int) (g off cap : Nat) (ha : a < 4) (hc : c < 4) (hg : g < w.heap.size) (hx : w.cell? ⟨g, off + a, none⟩ = some (.int .i64 x)) (hz : w.cell? ⟨g, off + c, none⟩ = some (.int .i64 0)) :
    Calls Try.prog 110 #[.agg #[.int .i64 t, .int .i64 pc, .slice (some ⟨g, off, none⟩) 4 cap], .agg #[.int .i64 o, .int .i64 a, .int .i64 b, .int .i64 c]] w (Said (.int .i64 x) w) := by
  have a0 : (0 : Int) ≤ (a : Int) := Int.natCast_nonneg _
  have a1 : (a : Int) < 4 := by omega
  have c0 : (0 : Int) ≤ (c : Int) := Int.natCast_nonneg _
  have c1 : (c : Int) < 4 := by omega
  go_enter Try.func110, Try.ntmps110
  go_wp2_with fail
  go_ret
  exact ⟨rfl, below2 _ _ _⟩

/-- The table of the operations. -/
def opTab : Array Value := #[Value.nilFunc, fnV 102, fnV 103, fnV 104, fnV 105, fnV 106,
  fnV 107, fnV 108, fnV 109, fnV 110]

set_option maxRecDepth 100000 in
set_option maxHeartbeats 1000000 in
theorem value_at (k : Nat) (hk : k < 10) (F : FuncId) (h0 : opTab[k]? = some (.func (.func F) #[] #[])) (w : World) :
    Calls Try.prog 86 #[.int .i64 k] w (Said (.func (.func F) #[] #[]) w) := by
  have k0 : (0 : Int) ≤ (k : Int) := Int.natCast_nonneg _
  have k1 : (k : Int) < 10 := by omega
  go_enter Try.func86, Try.ntmps86
  go_wp2_with (with_reducible refine wpList_store_row rfl 108 _ _ rfl w.heap.size opTab rfl rfl 108 _ (alloc_at _ _ _ (by simp)) (by kernel_rfl) (by kernel_rfl) (by kernel_rfl) ?_; rw [alloc_setRow _ _ _ _ _ (by simp)])
  go_ret
  exact ⟨rfl, below1 _ _⟩

set_option maxRecDepth 100000 in
set_option maxHeartbeats 1000000 in
theorem pIsThread_any (t : Int) (w : World) : Calls Try.prog 54 #[.int .i64 t] w (fun e w' => e = .returned (.bool (decide (0 ≤ t ∧ t ≤ 23))) ∧ w = w') := by
  by_cases h0 : 0 ≤ t
  · by_cases h1 : t < 24
    · rw [decide_eq_true (p := 0 ≤ t ∧ t ≤ 23) ⟨h0, by omega⟩]
      go_enter Try.func54, Try.ntmps54
      go_wp2_with fail
      go_ret
      exact ⟨rfl, rfl⟩
    · rw [decide_eq_false (p := 0 ≤ t ∧ t ≤ 23) (by omega)]
      go_enter Try.func54, Try.ntmps54
      go_wp2_with fail
      go_ret
      exact ⟨rfl, rfl⟩
  · rw [decide_eq_false (p := 0 ≤ t ∧ t ≤ 23) (by omega)]
    go_enter Try.func54, Try.ntmps54
    go_wp2_with fail
    go_ret
    exact ⟨rfl, rfl⟩

/-- Can a row be the registers of a lane? -/
def regsOk (rs : List Int) : Bool := decide (rs.length = 4) && rs.all isW

set_option maxRecDepth 100000 in
set_option maxHeartbeats 1000000 in
theorem pAreRegs_any (B : Nat) (w : World) (ra : Option Addr) (rs : List Int) (rc : Nat) (hl : rs.length ≤ 10000000) (h : Nums B w ra rs) :
    Calls Try.prog 52 #[.slice ra rs.length rc] w (fun e w' => e = .returned (.bool (regsOk rs)) ∧ w = w') := by
  have HW := Lib.hid (pAreWords_any B w ra rs rc hl h)
  have e4 : ((rs.length : Int) == 4) = decide (rs.length = 4) := by rw [Bool.eq_iff_iff]; simp; omega
  unfold regsOk
  generalize rs.all isW = v at *
  clear h
  cases h4 : decide (rs.length = 4) with
  | false =>
    rw [h4] at e4
    rw [Bool.false_and]
    clear h4
    go_enter Try.func52, Try.ntmps52
    go_wp2_with fail
    go_ret
    exact ⟨rfl, rfl⟩
  | true =>
    rw [h4] at e4
    rw [Bool.true_and]
    clear h4
    go_enter Try.func52, Try.ntmps52
    go_wp2_with fail
    refine HW.out.mono ?_
    rintro e w' ⟨rfl, rfl⟩
    go_wp2_with fail
    go_ret
    exact ⟨rfl, rfl⟩

end Go.Proofs.Ytmiopbpahkgmbaa
