/- Lanes: LaneOk of the program, LaneEnded and LocalStep of both. -/
import Derived.Test.YtmiopbpahkgmbaaLaneC
import Derived.Test.YtmiopbpahkgmbaaLaneF
namespace Go.Proofs.Ytmiopbpahkgmbaa
open Go.RowKit Go

theorem laneOk_node (p : List I4) (t pc : Int) (rs : List Int) : laneOk p t pc rs = (nodeOk p pc && (decide (0 ≤ t ∧ t ≤ 23) && regsOk rs)) := by
  unfold laneOk regsOk nodeOk
  cases progOk p <;> cases decide (0 ≤ t ∧ t ≤ 23) <;> cases decide (0 ≤ pc ∧ pc ≤ (p.length : Int)) <;> rfl
theorem laneOk_iff {p : List I4} {t pc : Int} {rs : List Int} : laneOk p t pc rs = true ↔ progOk p = true ∧ (0 ≤ t ∧ t ≤ 23) ∧ (0 ≤ pc ∧ pc ≤ (p.length : Int)) ∧ rs.length = 4 ∧ rs.all isW = true := by
  unfold laneOk
  simp only [Bool.and_eq_true, decide_eq_true_eq]

/-- Has a valid lane ended? -/
def endedQ (p : List I4) (t pc : Int) (rs : List Int) : Bool := laneOk p t pc rs && decide (pc = (p.length : Int))
/-- Is the instruction that a lane performs next local? -/
def locAt (p : List I4) (pc : Int) : Bool := match p[pc.toNat]? with | some x => locI x | none => false
/-- Can a lane make a local step? -/
def canStep (p : List I4) (t pc : Int) (rs : List Int) : Bool := laneOk p t pc rs && (!decide (pc = (p.length : Int)) && locAt p pc)
/-- Where a lane is behind a step, and its registers; where it can't step it stays. -/
def pcS (p : List I4) (t pc : Int) (rs : List Int) : Int := if canStep p t pc rs = true then (match p[pc.toNat]? with | some x => nextR p pc.toNat x rs | none => pc) else pc
def regS (p : List I4) (t pc : Int) (rs : List Int) : List Int := if canStep p t pc rs = true then (match p[pc.toNat]? with | some x => applyR x t rs | none => rs) else rs
/-- A lane and a truth are returned, the registers in memory of the call's own. -/
def StepSaid (t pc : Int) (rs : List Int) (ok : Bool) (w : World) (e : Ending) (w' : World) : Prop :=
  ∃ (a : Option Addr) (c : Nat), e = .returned (.tuple #[.agg #[.int .i64 t, .int .i64 pc, .slice a rs.length c], .bool ok]) ∧ Own w.heap.size w' (.slice a rs.length c) rs ∧ Below w.heap.size w w'

theorem step_no {p : List I4} {t pc : Int} {rs : List Int} (h : canStep p t pc rs = false) : pcS p t pc rs = pc ∧ regS p t pc rs = rs := by
  unfold pcS regS
  rw [h]
  exact ⟨rfl, rfl⟩
theorem step_yes {p : List I4} {t : Int} {k : Nat} {rs : List Int} (hk : k < p.length) (h : laneOk p t k rs = true) (hl : locI p[k] = true) : canStep p t k rs = true ∧ pcS p t k rs = nextR p k p[k] rs ∧ regS p t k rs = applyR p[k] t rs := by
  have e : p[(k : Int).toNat]? = some p[k] := by rw [Int.toNat_natCast, List.getElem?_eq_getElem hk]
  have hc : canStep p t k rs = true := by
    unfold canStep locAt
    rw [h, e]
    have : decide ((k : Int) = (p.length : Int)) = false := by simp; omega
    rw [this]
    simpa using hl
  unfold pcS regS
  rw [hc, e]
  exact ⟨rfl, by rw [if_pos rfl, Int.toNat_natCast], rfl⟩
/-- The ways that a lane's next step can go. -/
theorem step_ways (p : List I4) (t pc : Int) (rs : List Int) : (laneOk p t pc rs = false ∧ canStep p t pc rs = false) ∨ (laneOk p t pc rs = true ∧ pc = (p.length : Int) ∧ canStep p t pc rs = false) ∨
    ∃ (k : Nat) (hk : k < p.length), pc = k ∧ laneOk p t k rs = true ∧ ((locI p[k] = false ∧ canStep p t pc rs = false) ∨ locI p[k] = true) := by
  cases h : laneOk p t pc rs with
  | false => exact .inl ⟨rfl, by unfold canStep; rw [h]; rfl⟩
  | true =>
    obtain ⟨hp, _, ⟨h0, h1⟩, _⟩ := laneOk_iff.1 h
    by_cases he : pc = (p.length : Int)
    · exact .inr (.inl ⟨rfl, he, by unfold canStep; rw [h, decide_eq_true he]; rfl⟩)
    · obtain ⟨k, rfl⟩ := Int.eq_ofNat_of_zero_le h0
      have hk : k < p.length := by omega
      refine .inr (.inr ⟨k, hk, rfl, h, ?_⟩)
      cases hl : locI p[k] with
      | true => exact .inr rfl
      | false =>
        refine .inl ⟨rfl, ?_⟩
        unfold canStep locAt
        rw [h, Int.toNat_natCast, List.getElem?_eq_getElem hk]
        simp [hl]

set_option maxRecDepth 100000 in
set_option maxHeartbeats 4000000 in
theorem pLaneOk_any (B : Nat) (w : World) (a : Option Addr) (p : List I4) (cap : Nat) (hl : p.length ≤ 10000000) (h : Nums B w a (flat p)) (hB : B ≤ w.heap.size) (t pc : Int) (B2 : Nat) (ra : Option Addr) (rs : List Int) (rc : Nat) (hl2 : rs.length ≤ 10000000) (h2 : Nums B2 w ra rs) (hB2 : B2 ≤ w.heap.size) :
    Calls Try.prog 22 #[.slice a p.length cap, .agg #[.int .i64 t, .int .i64 pc, .slice ra rs.length rc]] w (Said (.bool (laneOk p t pc rs)) w) := by
  have hb0 := below1 w (.cells #[.int .i64 t, .int .i64 pc, .slice ra rs.length rc] 27)
  have HP := Lib.hid (pIsNode_any B _ a p cap pc hl (h.kept (hb0.mono hB)) (Nat.le_trans hB hb0.size))
  have HT := Lib.hid (pIsThread_any t)
  have HW := Lib.hid (fun W h => pAreRegs_any B2 W ra rs rc hl2 h)
  have H2 := Lib.hid (h2.kept (hb0.mono hB2))
  have HB0 := Lib.hid hb0
  rw [laneOk_node]
  generalize decide (0 ≤ t ∧ t ≤ 23) = v1 at *
  generalize nodeOk p pc = v0 at *
  generalize regsOk rs = v2 at *
  have HC := Lib.hid (fun (w1 : World) (b : Below (w.alloc (.cells #[.int .i64 t, .int .i64 pc, .slice ra rs.length rc] 27)).heap.size (w.alloc (.cells #[.int .i64 t, .int .i64 pc, .slice ra rs.length rc] 27)) w1) => (show (w1.cell? ⟨w.heap.size, 0, none⟩ = some (.int .i64 t) ∧ w1.cell? ⟨w.heap.size, 1, none⟩ = some (.int .i64 pc) ∧ w1.cell? ⟨w.heap.size, 2, none⟩ = some (.slice ra rs.length rc)) ∧ Nums B2 w1 ra rs ∧ Below w.heap.size w w1 from
    ⟨⟨by rw [b.cell (by simp)]; simp, by rw [b.cell (by simp)]; simp, by rw [b.cell (by simp)]; simp⟩, H2.out.kept (b.mono (Nat.le_trans hB2 HB0.out.size)), HB0.out.trans (b.mono HB0.out.size)⟩))
  clear h h2 hb0
  cases v0 with
  | false =>
    rw [Bool.false_and]
    go_enter Try.func22, Try.ntmps22
    go_wp2_with fail
    refine HP.out.mono ?_
    rintro e w1 ⟨rfl, b1⟩
    have B1 := Lib.hid (HC.out w1 b1)
    clear b1
    go_wp2_with fail
    go_ret
    exact ⟨rfl, B1.out.2.2⟩
  | true =>
    rw [Bool.true_and]
    cases v1 with
    | false =>
      rw [Bool.false_and]
      go_enter Try.func22, Try.ntmps22
      go_wp2_with fail
      refine HP.out.mono ?_
      rintro e w1 ⟨rfl, b1⟩
      obtain ⟨⟨k0, k1, k2⟩, n1, bb⟩ := HC.out w1 b1
      have B1 := Lib.hid bb
      clear b1 n1 bb
      go_wp2_with fail
      refine (HT.out _).mono ?_
      rintro e w' ⟨rfl, rfl⟩
      go_wp2_with fail
      go_ret
      exact ⟨rfl, B1.out⟩
    | true =>
      rw [Bool.true_and]
      go_enter Try.func22, Try.ntmps22
      go_wp2_with fail
      refine HP.out.mono ?_
      rintro e w1 ⟨rfl, b1⟩
      obtain ⟨⟨k0, k1, k2⟩, n1, bb⟩ := HC.out w1 b1
      have B1 := Lib.hid bb
      have N1 := Lib.hid n1
      clear b1 n1 bb
      go_wp2_with fail
      refine (HT.out _).mono ?_
      rintro e w' ⟨rfl, rfl⟩
      go_wp2_with fail
      refine (HW.out _ N1.out).mono ?_
      rintro e w' ⟨rfl, rfl⟩
      go_wp2_with fail
      go_ret
      exact ⟨rfl, B1.out⟩

set_option maxRecDepth 100000 in
set_option maxHeartbeats 4000000 in
theorem pLaneEnded_any (B : Nat) (w : World) (a : Option Addr) (p : List I4) (cap : Nat) (hl : p.length ≤ 10000000) (h : Nums B w a (flat p)) (hB : B ≤ w.heap.size) (t pc : Int) (B2 : Nat) (ra : Option Addr) (rs : List Int) (rc : Nat) (hl2 : rs.length ≤ 10000000) (h2 : Nums B2 w ra rs) (hB2 : B2 ≤ w.heap.size) :
    Calls Try.prog 21 #[.slice a p.length cap, .agg #[.int .i64 t, .int .i64 pc, .slice ra rs.length rc]] w (Said (.bool (endedQ p t pc rs)) w) := by
  have hb0 := below1 w (.cells #[.int .i64 t, .int .i64 pc, .slice ra rs.length rc] 27)
  have HP := Lib.hid (pLaneOk_any B _ a p cap hl (h.kept (hb0.mono hB)) (Nat.le_trans hB hb0.size) t pc B2 ra rs rc hl2 (h2.kept (hb0.mono hB2)) (Nat.le_trans hB2 hb0.size))
  have hll : w.heap.size < (w.alloc (.cells #[.int .i64 t, .int .i64 pc, .slice ra rs.length rc] 27)).heap.size := by simp
  have hx := Box.new 27 w #[.int .i64 t, .int .i64 pc, .slice ra rs.length rc]
  have e : endedQ p t pc rs = (laneOk p t pc rs && decide (pc = (p.length : Int))) := rfl
  rw [e]
  clear e h h2
  have e2 : (pc == (p.length : Int)) = decide (pc = (p.length : Int)) := by rw [Bool.eq_iff_iff]; simp
  generalize laneOk p t pc rs = v0 at *
  have HB0 := Lib.hid hb0
  have HX := Lib.hid hx
  clear hb0 hx
  cases v0 with
  | false =>
    rw [Bool.false_and]
    clear e2
    go_enter Try.func21, Try.ntmps21
    go_wp2_with fail
    refine HP.out.mono ?_
    rintro e w1 ⟨rfl, b1⟩
    have B1 := Lib.hid (HB0.out.trans (b1.mono HB0.out.size))
    clear b1
    go_wp2_with fail
    go_ret
    exact ⟨rfl, B1.out⟩
  | true =>
    rw [Bool.true_and]
    go_enter Try.func21, Try.ntmps21
    go_wp2_with fail
    refine HP.out.mono ?_
    rintro e w1 ⟨rfl, b1⟩
    have x1 := (HX.out.below b1).cell 1
    simp at x1
    have B1 := Lib.hid (HB0.out.trans (b1.mono HB0.out.size))
    clear b1
    cases hd : decide (pc = (p.length : Int)) with
    | false =>
      rw [hd] at e2
      have HD := Lib.hid hd
      clear hd
      go_wp2_with fail
      go_ret
      exact ⟨by rw [HD.out]; rfl, B1.out⟩
    | true =>
      rw [hd] at e2
      have HD := Lib.hid hd
      clear hd
      go_wp2_with fail
      go_ret
      exact ⟨by rw [HD.out]; rfl, B1.out⟩

set_option maxRecDepth 100000 in
set_option maxHeartbeats 4000000 in
theorem sLocalStep_any (B : Nat) (w : World) (a : Option Addr) (p : List I4) (cap : Nat) (hl : p.length ≤ 10000000) (h : Nums B w a (flat p)) (hB : B ≤ w.heap.size) (t pc : Int) (B2 : Nat) (ad : Addr) (rs : List Int) (rc : Nat) (hl2 : rs.length ≤ 10000000) (h2 : Nums B2 w (some ad) rs) (hB2 : B2 ≤ w.heap.size) :
    Calls Try.prog 32 #[.slice a p.length cap, .agg #[.int .i64 t, .int .i64 pc, .slice (some ad) rs.length rc]] w (StepSaid t (pcS p t pc rs) (regS p t pc rs) (canStep p t pc rs) w) := by
  obtain ⟨w0, hw0⟩ : ∃ w0, w0 = (w.alloc (.cells #[.int .i64 t, .int .i64 pc, .slice (some ad) rs.length rc] 27)).alloc (.cells #[.int .i64 0, .int .i64 0, .slice none 0 0] 27) := ⟨_, rfl⟩
  have hTB := @two_boxes w
  have H0 := Lib.hid (show ∀ W, Kept w0 W → Box 27 W w.heap.size #[.int .i64 t, .int .i64 pc, .slice (some ad) rs.length rc] ∧ Box 27 W (w.heap.size + 1) #[.int .i64 0, .int .i64 0, .slice none 0 0] ∧ Below w.heap.size w W ∧ w.heap.size + 2 ≤ W.heap.size from fun W hW => hTB (by rw [← hw0]; exact hW))
  have HOK := fun W (hW : Kept w0 W) => sLaneOk_any B W a p cap hl (h.kept ((H0.out W hW).2.2.1.mono hB)) (Nat.le_trans hB (by have := (H0.out W hW).2.2.2; omega)) t pc B2 (some ad) rs rc hl2 (h2.kept ((H0.out W hW).2.2.1.mono hB2)) (Nat.le_trans hB2 (by have := (H0.out W hW).2.2.2; omega))
  have HCP := Lib.hid (fun W (hW : Kept w0 W) => sCopy_any B2 W t pc ad rs rc hl2 (h2.kept ((H0.out W hW).2.2.1.mono hB2)) (Nat.le_trans hB2 (by have := (H0.out W hW).2.2.2; omega)))
  have hk0 : Kept w0 w0 := Below.refl _ _
  have HNP := Lib.hid h
  have HNR := Lib.hid h2
  clear h h2 hTB
  have hsz0 := (H0.out w0 hk0).2.2.2
  have hwl := Lib.hid (fun W (hW : Kept w0 W) => (show (W.cell? ⟨w.heap.size, 0, none⟩ = some (.int .i64 t) ∧ W.cell? ⟨w.heap.size, 1, none⟩ = some (.int .i64 pc) ∧ W.cell? ⟨w.heap.size, 2, none⟩ = some (.slice (some ad) rs.length rc)) ∧ w.heap.size < W.heap.size from ⟨⟨(H0.out W hW).1.cell 0, (H0.out W hW).1.cell 1, (H0.out W hW).1.cell 2⟩, (H0.out W hW).1.lt⟩))
  have hwr := Lib.hid (fun W (hW : Kept w0 W) => (show (W.cell? ⟨w.heap.size + 1, 0, none⟩ = some (.int .i64 0) ∧ W.cell? ⟨w.heap.size + 1, 1, none⟩ = some (.int .i64 0) ∧ W.cell? ⟨w.heap.size + 1, 2, none⟩ = some (.slice none 0 0)) ∧ (∀ j, W.frozen? ⟨w.heap.size + 1, j, none⟩ = false) ∧ w.heap.size + 1 < W.heap.size from ⟨⟨(H0.out W hW).2.1.cell 0, (H0.out W hW).2.1.cell 1, (H0.out W hW).2.1.cell 2⟩, (H0.out W hW).2.1.frozen, (H0.out W hW).2.1.lt⟩))
  obtain ⟨⟨z0, z1, z2⟩, z3⟩ := hwl.out w0 hk0
  rcases step_ways p t pc rs with ⟨hok, hno⟩ | ⟨hok, hpe, hno⟩ | ⟨k, hk, rfl, hok, ⟨hlo, hno⟩ | hlo⟩
  · obtain ⟨e1, e2⟩ := step_no hno
    rw [e1, e2, hno]
    clear e1 e2 hno
    rw [hok] at HOK
    replace HOK := Lib.hid HOK
    clear hok
    go_enter Try.func32, Try.ntmps32
    go_upto_region 1 with fail
    rw [← hw0]
    clear hw0
    go_wp2_with fail
    refine (HOK.out w0 hk0).mono ?_
    rintro e w1 ⟨rfl, b1⟩
    have hk1 : Kept w0 w1 := Kept.call hk0 b1
    obtain ⟨⟨y0, y1, y2⟩, y3⟩ := hwl.out w1 hk1
    clear b1
    go_wp2_with fail
    refine (HCP.out w1 hk1).mono ?_
    rintro e w2 ⟨a2, cc2, rfl, o2, b2⟩
    have hk2 : Kept w0 w2 := Kept.call hk1 b2
    obtain ⟨⟨x0, x1, x2⟩, x3, x4⟩ := hwr.out w2 hk2
    have hs1 := (H0.out w1 hk1).2.2.2
    have O2 := Lib.hid (step_end o2 hs1 (H0.out w2 hk2).2.2.1 (.int .i64 t) (.int .i64 pc) (.slice a2 rs.length cc2))
    clear o2 b2
    go_wp2_with fail
    exact bodyPost_ret (v := .tuple #[.agg #[.int .i64 t, .int .i64 pc, .slice a2 rs.length cc2], .bool false]) (by simp [results, Try.results32, go_sem, x0, x1, x2]) rfl ⟨a2, cc2, rfl, O2.out⟩
  · obtain ⟨e1, e2⟩ := step_no hno
    rw [e1, e2, hno]
    clear e1 e2 hno
    rw [hok] at HOK
    replace HOK := Lib.hid HOK
    clear hok
    subst hpe
    have hpe2 : ((p.length : Int) == (p.length : Int)) = true := by simp
    go_enter Try.func32, Try.ntmps32
    go_upto_region 1 with fail
    rw [← hw0]
    clear hw0
    go_wp2_with fail
    refine (HOK.out w0 hk0).mono ?_
    rintro e w1 ⟨rfl, b1⟩
    have hk1 : Kept w0 w1 := Kept.call hk0 b1
    obtain ⟨⟨y0, y1, y2⟩, y3⟩ := hwl.out w1 hk1
    clear b1
    go_wp2_with fail
    refine (HCP.out w1 hk1).mono ?_
    rintro e w2 ⟨a2, cc2, rfl, o2, b2⟩
    have hk2 : Kept w0 w2 := Kept.call hk1 b2
    obtain ⟨⟨x0, x1, x2⟩, x3, x4⟩ := hwr.out w2 hk2
    have hs1 := (H0.out w1 hk1).2.2.2
    have O2 := Lib.hid (step_end o2 hs1 (H0.out w2 hk2).2.2.1 (.int .i64 t) (.int .i64 (p.length : Int)) (.slice a2 rs.length cc2))
    clear o2 b2
    go_wp2_with fail
    exact bodyPost_ret (v := .tuple #[.agg #[.int .i64 t, .int .i64 (p.length : Int), .slice a2 rs.length cc2], .bool false]) (by simp [results, Try.results32, go_sem, x0, x1, x2]) rfl ⟨a2, cc2, rfl, O2.out⟩
  · obtain ⟨e1, e2⟩ := step_no hno
    rw [e1, e2, hno]
    clear e1 e2 hno
    rw [hok] at HOK
    replace HOK := Lib.hid HOK
    clear hok
    have hlk := hlo
    unfold locI at hlk
    obtain ⟨g, off, rfl, hg, c0, c1, c2, c3⟩ := HNP.out.at4 k hk
    generalize p[k] = x at *
    obtain ⟨xo, xa, xb, xc⟩ := x
    simp only at c0 c1 c2 c3 hlk
    have k0 : (0 : Int) ≤ (k : Int) := Int.natCast_nonneg _
    have k1 : (k : Int) < (p.length : Int) := by omega
    have hke : ((k : Int) == (p.length : Int)) = false := by simp; omega
    have hgw : g < w.heap.size := by omega
    have HD := Lib.hid (fun W (hW : Kept w0 W) => (show W.cell? ⟨g, off + k * 4, none⟩ = some (.int .i64 xo) ∧ W.cell? ⟨g, off + k * 4 + 1, none⟩ = some (.int .i64 xa) ∧ W.cell? ⟨g, off + k * 4 + 2, none⟩ = some (.int .i64 xb) ∧ W.cell? ⟨g, off + k * 4 + 3, none⟩ = some (.int .i64 xc) from
      ⟨by rw [(H0.out W hW).2.2.1.cell (p := ⟨g, off + k * 4, none⟩) hgw]; exact c0, by rw [(H0.out W hW).2.2.1.cell (p := ⟨g, off + k * 4 + 1, none⟩) hgw]; exact c1, by rw [(H0.out W hW).2.2.1.cell (p := ⟨g, off + k * 4 + 2, none⟩) hgw]; exact c2, by rw [(H0.out W hW).2.2.1.cell (p := ⟨g, off + k * 4 + 3, none⟩) hgw]; exact c3⟩))
    clear hlo c0 c1 c2 c3
    have HLK := Lib.hid hlk
    clear hlk
    go_enter Try.func32, Try.ntmps32
    go_upto_region 1 with fail
    rw [← hw0]
    clear hw0
    go_wp2_with fail
    refine (HOK.out w0 hk0).mono ?_
    rintro e w1 ⟨rfl, b1⟩
    have hk1 : Kept w0 w1 := Kept.call hk0 b1
    obtain ⟨⟨y0, y1, y2⟩, y3⟩ := hwl.out w1 hk1
    clear b1
    obtain ⟨d0, d1, d2, d3⟩ := HD.out w1 hk1
    have hgw1 : g < w1.heap.size := by omega
    go_wp2_with fail
    refine (sIsLocal_any xo xa xb xc w1).mono ?_
    rw [HLK.out]
    rintro e w1b ⟨rfl, b1⟩
    replace hk1 : Kept w0 w1b := Kept.call hk1 b1
    clear y0 y1 y2 y3 d0 d1 d2 d3 hgw1
    obtain ⟨⟨y0, y1, y2⟩, y3⟩ := hwl.out w1b hk1
    clear b1
    go_wp2_with fail
    refine (HCP.out w1b hk1).mono ?_
    rintro e w2 ⟨a2, cc2, rfl, o2, b2⟩
    have hk2 : Kept w0 w2 := Kept.call hk1 b2
    obtain ⟨⟨x0, x1, x2⟩, x3, x4⟩ := hwr.out w2 hk2
    have hs1 := (H0.out w1b hk1).2.2.2
    have O2 := Lib.hid (step_end o2 hs1 (H0.out w2 hk2).2.2.1 (.int .i64 t) (.int .i64 (k : Int)) (.slice a2 rs.length cc2))
    clear o2 b2
    go_wp2_with fail
    exact bodyPost_ret (v := .tuple #[.agg #[.int .i64 t, .int .i64 (k : Int), .slice a2 rs.length cc2], .bool false]) (by simp [results, Try.results32, go_sem, x0, x1, x2]) rfl ⟨a2, cc2, rfl, O2.out⟩
  · obtain ⟨e0, e1, e2⟩ := step_yes hk hok hlo
    rw [e0, e1, e2]
    clear e0 e1 e2
    rw [hok] at HOK
    have hr4' := (laneOk_iff.1 hok).2.2.2.1
    rw [hr4'] at z2 hwl HOK hw0 ⊢
    replace HOK := Lib.hid HOK
    obtain ⟨hp, _, _, hr4, _⟩ := laneOk_iff.1 hok
    have hlen : (applyR p[k] t rs).length = 4 := by rw [applyR_len]; exact hr4
    have HST := fun W (hW : Kept w0 W) => sStep_any B W a p cap k hp hk (HNP.out.kept ((H0.out W hW).2.2.1.mono hB)) (Nat.le_trans hB (by have := (H0.out W hW).2.2.2; omega)) t B2 (some ad) rs rc hr4 (HNR.out.kept ((H0.out W hW).2.2.1.mono hB2)) (Nat.le_trans hB2 (by have := (H0.out W hW).2.2.2; omega))
    replace HST := Lib.hid HST
    generalize applyR p[k] t rs = ys at *
    generalize nextR p k p[k] rs = m at *
    clear hok hp
    have hlk := hlo
    unfold locI at hlk
    obtain ⟨g, off, rfl, hg, c0, c1, c2, c3⟩ := HNP.out.at4 k hk
    generalize p[k] = x at *
    obtain ⟨xo, xa, xb, xc⟩ := x
    simp only at c0 c1 c2 c3 hlk
    have k0 : (0 : Int) ≤ (k : Int) := Int.natCast_nonneg _
    have k1 : (k : Int) < (p.length : Int) := by omega
    have hke : ((k : Int) == (p.length : Int)) = false := by simp; omega
    have hgw : g < w.heap.size := by omega
    have HD := Lib.hid (fun W (hW : Kept w0 W) => (show W.cell? ⟨g, off + k * 4, none⟩ = some (.int .i64 xo) ∧ W.cell? ⟨g, off + k * 4 + 1, none⟩ = some (.int .i64 xa) ∧ W.cell? ⟨g, off + k * 4 + 2, none⟩ = some (.int .i64 xb) ∧ W.cell? ⟨g, off + k * 4 + 3, none⟩ = some (.int .i64 xc) from
      ⟨by rw [(H0.out W hW).2.2.1.cell (p := ⟨g, off + k * 4, none⟩) hgw]; exact c0, by rw [(H0.out W hW).2.2.1.cell (p := ⟨g, off + k * 4 + 1, none⟩) hgw]; exact c1, by rw [(H0.out W hW).2.2.1.cell (p := ⟨g, off + k * 4 + 2, none⟩) hgw]; exact c2, by rw [(H0.out W hW).2.2.1.cell (p := ⟨g, off + k * 4 + 3, none⟩) hgw]; exact c3⟩))
    clear hlo c0 c1 c2 c3
    have HLK := Lib.hid hlk
    clear hlk
    go_enter Try.func32, Try.ntmps32
    go_upto_region 1 with fail
    rw [← hw0]
    clear hw0
    go_wp2_with fail
    refine (HOK.out w0 hk0).mono ?_
    rintro e w1 ⟨rfl, b1⟩
    have hk1 : Kept w0 w1 := Kept.call hk0 b1
    obtain ⟨⟨y0, y1, y2⟩, y3⟩ := hwl.out w1 hk1
    clear b1
    obtain ⟨d0, d1, d2, d3⟩ := HD.out w1 hk1
    have hgw1 : g < w1.heap.size := by omega
    go_wp2_with fail
    refine (sIsLocal_any xo xa xb xc w1).mono ?_
    rw [HLK.out]
    rintro e w1b ⟨rfl, b1⟩
    replace hk1 : Kept w0 w1b := Kept.call hk1 b1
    clear y0 y1 y2 y3 d0 d1 d2 d3 hgw1
    obtain ⟨⟨y0, y1, y2⟩, y3⟩ := hwl.out w1b hk1
    clear b1
    go_wp2_with fail
    refine (HST.out w1b hk1).mono ?_
    rintro e w2 ⟨a2, cc2, rfl, o2, b2⟩
    have hk2 : Kept w0 w2 := Kept.call hk1 b2
    obtain ⟨⟨x0, x1, x2⟩, x3, x4⟩ := hwr.out w2 hk2
    have hs1 := (H0.out w1b hk1).2.2.2
    have O2 := Lib.hid (step_end o2 hs1 (H0.out w2 hk2).2.2.1 (.int .i64 t) (.int .i64 m) (.slice a2 4 cc2))
    clear o2 b2
    go_wp2_with fail
    exact bodyPost_ret (v := .tuple #[.agg #[.int .i64 t, .int .i64 m, .slice a2 4 cc2], .bool true]) (by simp [results, Try.results32, go_sem, x0, x1, x2]) rfl ⟨a2, cc2, by rw [hlen], O2.out⟩

end Go.Proofs.Ytmiopbpahkgmbaa
