/- Lanes: the model's LaneOk and LaneEnded. -/
import Derived.Test.YtmiopbpahkgmbaaLaneS
namespace Go.Proofs.Ytmiopbpahkgmbaa
open Go.RowKit Go

/-- A lane as a value. -/
def laneV (t pc : Int) (ra : Option Addr) (n rc : Nat) : Value := .agg #[.int .i64 t, .int .i64 pc, .slice ra n rc]

set_option maxRecDepth 100000 in
set_option maxHeartbeats 1000000 in
theorem sLaneOk_any (B : Nat) (w : World) (a : Option Addr) (p : List I4) (cap : Nat) (hl : p.length ≤ 10000000) (h : Nums B w a (flat p)) (hB : B ≤ w.heap.size) (t pc : Int) (B2 : Nat) (ra : Option Addr) (rs : List Int) (rc : Nat) (hl2 : rs.length ≤ 10000000) (h2 : Nums B2 w ra rs) (hB2 : B2 ≤ w.heap.size) :
    Calls Try.prog 70 #[.slice a p.length cap, .agg #[.int .i64 t, .int .i64 pc, .slice ra rs.length rc]] w (Said (.bool (laneOk p t pc rs)) w) := by
  have hb0 := below1 w (.cells #[.int .i64 t, .int .i64 pc, .slice ra rs.length rc] 27)
  have HP := Lib.hid (sProgramOk_any B _ a p cap hl (h.kept (hb0.mono hB)) (Nat.le_trans hB hb0.size))
  have HIN := Lib.hid (fun n b W => sIn_any n 0 b W)
  have HW := Lib.hid (fun W h => sAreWords_any B2 W ra rs rc hl2 h)
  have H2 := Lib.hid (h2.kept (hb0.mono hB2))
  have HB0 := Lib.hid hb0
  have e : laneOk p t pc rs = (progOk p && (decide (0 ≤ t ∧ t ≤ 23) && (decide (0 ≤ pc ∧ pc ≤ (p.length : Int)) && (decide (rs.length = 4) && rs.all isW)))) := rfl
  rw [e]
  have d1 := Lib.hid (fun W => HIN.out t 23 W)
  have d2 := Lib.hid (fun W => HIN.out pc p.length W)
  have e4 : ((rs.length : Int) == 4) = decide (rs.length = 4) := by rw [Bool.eq_iff_iff]; simp; omega
  generalize decide (0 ≤ t ∧ t ≤ 23) = v1 at *
  generalize decide (0 ≤ pc ∧ pc ≤ (p.length : Int)) = v2 at *
  generalize decide (rs.length = 4) = v3 at *
  generalize rs.all isW = v4 at *
  generalize progOk p = v0 at *
  have HC := Lib.hid (fun (w1 : World) (b : Below (w.alloc (.cells #[.int .i64 t, .int .i64 pc, .slice ra rs.length rc] 27)).heap.size (w.alloc (.cells #[.int .i64 t, .int .i64 pc, .slice ra rs.length rc] 27)) w1) => (show (w1.cell? ⟨w.heap.size, 0, none⟩ = some (.int .i64 t) ∧ w1.cell? ⟨w.heap.size, 1, none⟩ = some (.int .i64 pc) ∧ w1.cell? ⟨w.heap.size, 2, none⟩ = some (.slice ra rs.length rc)) ∧ Nums B2 w1 ra rs ∧ Below w.heap.size w w1 from
    ⟨⟨by rw [b.cell (by simp)]; simp, by rw [b.cell (by simp)]; simp, by rw [b.cell (by simp)]; simp⟩, H2.out.kept (b.mono (Nat.le_trans hB2 HB0.out.size)), HB0.out.trans (b.mono HB0.out.size)⟩))
  clear h h2 hb0 e HIN
  cases v0 with
  | false =>
    rw [Bool.false_and]
    go_enter Try.func70, Try.ntmps70
    go_wp2_with fail
    refine HP.out.mono ?_
    rintro e w1 ⟨rfl, b1⟩
    have B1 := Lib.hid (HC.out w1 b1)
    clear b1
    go_wp2_with fail
    go_ret
    exact ⟨rfl, B1.out.2.2⟩
  | true =>
    rw [Bool.true_and]
    cases v1 with
    | false =>
      rw [Bool.false_and]
      go_enter Try.func70, Try.ntmps70
      go_wp2_with fail
      refine HP.out.mono ?_
      rintro e w1 ⟨rfl, b1⟩
      obtain ⟨⟨k0, k1, k2⟩, n1, bb⟩ := HC.out w1 b1
      have B1 := Lib.hid bb
      clear b1 n1 bb
      go_wp2_with fail
      refine (d1.out _).mono ?_
      rintro e w' ⟨rfl, rfl⟩
      go_wp2_with fail
      go_ret
      exact ⟨rfl, B1.out⟩
    | true =>
      rw [Bool.true_and]
      cases v2 with
      | false =>
        rw [Bool.false_and]
        go_enter Try.func70, Try.ntmps70
        go_wp2_with fail
        refine HP.out.mono ?_
        rintro e w1 ⟨rfl, b1⟩
        obtain ⟨⟨k0, k1, k2⟩, n1, bb⟩ := HC.out w1 b1
        have B1 := Lib.hid bb
        clear b1 n1 bb
        go_wp2_with fail
        refine (d1.out _).mono ?_
        rintro e w' ⟨rfl, rfl⟩
        go_wp2_with fail
        refine (d2.out _).mono ?_
        rintro e w' ⟨rfl, rfl⟩
        go_wp2_with fail
        go_ret
        exact ⟨rfl, B1.out⟩
      | true =>
        rw [Bool.true_and]
        cases v3 with
        | false =>
          rw [Bool.false_and]
          go_enter Try.func70, Try.ntmps70
          go_wp2_with fail
          refine HP.out.mono ?_
          rintro e w1 ⟨rfl, b1⟩
          obtain ⟨⟨k0, k1, k2⟩, n1, bb⟩ := HC.out w1 b1
          have B1 := Lib.hid bb
          clear b1 n1 bb
          go_wp2_with fail
          refine (d1.out _).mono ?_
          rintro e w' ⟨rfl, rfl⟩
          go_wp2_with fail
          refine (d2.out _).mono ?_
          rintro e w' ⟨rfl, rfl⟩
          go_wp2_with fail
          go_ret
          exact ⟨rfl, B1.out⟩
        | true =>
          rw [Bool.true_and]
          go_enter Try.func70, Try.ntmps70
          go_wp2_with fail
          refine HP.out.mono ?_
          rintro e w1 ⟨rfl, b1⟩
          obtain ⟨⟨k0, k1, k2⟩, n1, bb⟩ := HC.out w1 b1
          have B1 := Lib.hid bb
          have N1 := Lib.hid n1
          clear b1 n1 bb
          go_wp2_with fail
          refine (d1.out _).mono ?_
          rintro e w' ⟨rfl, rfl⟩
          go_wp2_with fail
          refine (d2.out _).mono ?_
          rintro e w' ⟨rfl, rfl⟩
          go_wp2_with fail
          refine (HW.out _ N1.out).mono ?_
          rintro e w' ⟨rfl, rfl⟩
          go_wp2_with fail
          go_ret
          exact ⟨rfl, B1.out⟩

end Go.Proofs.Ytmiopbpahkgmbaa
