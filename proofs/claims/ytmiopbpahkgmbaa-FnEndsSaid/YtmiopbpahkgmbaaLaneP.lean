/- Lanes: the program's LocalStep. -/
import Derived.Test.YtmiopbpahkgmbaaLaneQ
namespace Go.Proofs.Ytmiopbpahkgmbaa
open Go.RowKit Go

set_option maxRecDepth 100000 in
set_option maxHeartbeats 4000000 in
theorem pLocalStep_any (B : Nat) (w : World) (a : Option Addr) (p : List I4) (cap : Nat) (hl : p.length ≤ 10000000) (h : Nums B w a (flat p)) (hB : B ≤ w.heap.size) (t pc : Int) (B2 : Nat) (ra : Option Addr) (rs : List Int) (rc : Nat) (hl2 : rs.length ≤ 10000000) (h2 : Nums B2 w ra rs) (hB2 : B2 ≤ w.heap.size) :
    Calls Try.prog 20 #[.slice a p.length cap, .agg #[.int .i64 t, .int .i64 pc, .slice ra rs.length rc]] w (StepSaid t (pcS p t pc rs) (regS p t pc rs) (canStep p t pc rs) w) := by
  obtain ⟨w0, hw0⟩ : ∃ w0, w0 = (w.alloc (.cells #[.int .i64 t, .int .i64 pc, .slice ra rs.length rc] 27)).alloc (.cells #[.int .i64 0, .int .i64 0, .slice none 0 0] 27) := ⟨_, rfl⟩
  have hTB := @two_boxes w
  have H0 := Lib.hid (show ∀ W, Kept w0 W → Box 27 W w.heap.size #[.int .i64 t, .int .i64 pc, .slice ra rs.length rc] ∧ Box 27 W (w.heap.size + 1) #[.int .i64 0, .int .i64 0, .slice none 0 0] ∧ Below w.heap.size w W ∧ w.heap.size + 2 ≤ W.heap.size from fun W hW => hTB (by rw [← hw0]; exact hW))
  have HOK := fun W (hW : Kept w0 W) => pLaneOk_any B W a p cap hl (h.kept ((H0.out W hW).2.2.1.mono hB)) (Nat.le_trans hB (by have := (H0.out W hW).2.2.2; omega)) t pc B2 ra rs rc hl2 (h2.kept ((H0.out W hW).2.2.1.mono hB2)) (Nat.le_trans hB2 (by have := (H0.out W hW).2.2.2; omega))
  have HCP := Lib.hid (fun W (hW : Kept w0 W) => pCopied_any t pc B2 W ra rs rc hl2 (h2.kept ((H0.out W hW).2.2.1.mono hB2)) (Nat.le_trans hB2 (by have := (H0.out W hW).2.2.2; omega)))
  have hk0 : Kept w0 w0 := Below.refl _ _
  have HNP := Lib.hid h
  have HNR := Lib.hid h2
  clear h h2 hTB
  have hsz0 := (H0.out w0 hk0).2.2.2
  have hwl := Lib.hid (fun W (hW : Kept w0 W) => (show (W.cell? ⟨w.heap.size, 0, none⟩ = some (.int .i64 t) ∧ W.cell? ⟨w.heap.size, 1, none⟩ = some (.int .i64 pc) ∧ W.cell? ⟨w.heap.size, 2, none⟩ = some (.slice ra rs.length rc)) ∧ w.heap.size < W.heap.size from ⟨⟨(H0.out W hW).1.cell 0, (H0.out W hW).1.cell 1, (H0.out W hW).1.cell 2⟩, (H0.out W hW).1.lt⟩))
  have hwr := Lib.hid (fun W (hW : Kept w0 W) => (show (W.cell? ⟨w.heap.size + 1, 0, none⟩ = some (.int .i64 0) ∧ W.cell? ⟨w.heap.size + 1, 1, none⟩ = some (.int .i64 0) ∧ W.cell? ⟨w.heap.size + 1, 2, none⟩ = some (.slice none 0 0)) ∧ (∀ j, W.frozen? ⟨w.heap.size + 1, j, none⟩ = false) ∧ w.heap.size + 1 < W.heap.size from ⟨⟨(H0.out W hW).2.1.cell 0, (H0.out W hW).2.1.cell 1, (H0.out W hW).2.1.cell 2⟩, (H0.out W hW).2.1.frozen, (H0.out W hW).2.1.lt⟩))
  obtain ⟨⟨z0, z1, z2⟩, z3⟩ := hwl.out w0 hk0
  rcases step_ways p t pc rs with ⟨hok, hno⟩ | ⟨hok, hpe, hno⟩ | ⟨k, hk, rfl, hok, ⟨hlo, hno⟩ | hlo⟩
  · obtain ⟨e1, e2⟩ := step_no hno
    rw [e1, e2, hno]
    clear e1 e2 hno
    rw [hok] at HOK
    replace HOK := Lib.hid HOK
    clear hok
    go_enter Try.func20, Try.ntmps20
    go_upto_region 1 with fail
    rw [← hw0]
    clear hw0
    go_wp2_with fail
    refine (HOK.out w0 hk0).mono ?_
    rintro e w1 ⟨rfl, b1⟩
    have hk1 : Kept w0 w1 := Kept.call hk0 b1
    obtain ⟨⟨y0, y1, y2⟩, y3⟩ := hwl.out w1 hk1
    clear b1
    go_wp2_with fail
    refine (HCP.out w1 hk1).mono ?_
    rintro e w2 ⟨a2, cc2, rfl, o2, b2⟩
    have hk2 : Kept w0 w2 := Kept.call hk1 b2
    obtain ⟨⟨x0, x1, x2⟩, x3, x4⟩ := hwr.out w2 hk2
    have hs1 := (H0.out w1 hk1).2.2.2
    have O2 := Lib.hid (step_end o2 hs1 (H0.out w2 hk2).2.2.1 (.int .i64 t) (.int .i64 pc) (.slice a2 rs.length cc2))
    clear o2 b2
    go_wp2_with fail
    exact bodyPost_ret (v := .tuple #[.agg #[.int .i64 t, .int .i64 pc, .slice a2 rs.length cc2], .bool false]) (by simp [results, Try.results20, go_sem, x0, x1, x2]) rfl ⟨a2, cc2, rfl, O2.out⟩
  · obtain ⟨e1, e2⟩ := step_no hno
    rw [e1, e2, hno]
    clear e1 e2 hno
    rw [hok] at HOK
    replace HOK := Lib.hid HOK
    clear hok
    subst hpe
    have hpe2 : ((p.length : Int) == (p.length : Int)) = true := by simp
    go_enter Try.func20, Try.ntmps20
    go_upto_region 1 with fail
    rw [← hw0]
    clear hw0
    go_wp2_with fail
    refine (HOK.out w0 hk0).mono ?_
    rintro e w1 ⟨rfl, b1⟩
    have hk1 : Kept w0 w1 := Kept.call hk0 b1
    obtain ⟨⟨y0, y1, y2⟩, y3⟩ := hwl.out w1 hk1
    clear b1
    go_wp2_with fail
    refine (HCP.out w1 hk1).mono ?_
    rintro e w2 ⟨a2, cc2, rfl, o2, b2⟩
    have hk2 : Kept w0 w2 := Kept.call hk1 b2
    obtain ⟨⟨x0, x1, x2⟩, x3, x4⟩ := hwr.out w2 hk2
    have hs1 := (H0.out w1 hk1).2.2.2
    have O2 := Lib.hid (step_end o2 hs1 (H0.out w2 hk2).2.2.1 (.int .i64 t) (.int .i64 (p.length : Int)) (.slice a2 rs.length cc2))
    clear o2 b2
    go_wp2_with fail
    exact bodyPost_ret (v := .tuple #[.agg #[.int .i64 t, .int .i64 (p.length : Int), .slice a2 rs.length cc2], .bool false]) (by simp [results, Try.results20, go_sem, x0, x1, x2]) rfl ⟨a2, cc2, rfl, O2.out⟩
  · obtain ⟨e1, e2⟩ := step_no hno
    rw [e1, e2, hno]
    clear e1 e2 hno
    rw [hok] at HOK
    replace HOK := Lib.hid HOK
    clear hok
    have hlk := hlo
    unfold locI at hlk
    obtain ⟨g, off, rfl, hg, c0, c1, c2, c3⟩ := HNP.out.at4 k hk
    generalize p[k] = x at *
    obtain ⟨xo, xa, xb, xc⟩ := x
    simp only at c0 c1 c2 c3 hlk
    have k0 : (0 : Int) ≤ (k : Int) := Int.natCast_nonneg _
    have k1 : (k : Int) < (p.length : Int) := by omega
    have hke : ((k : Int) == (p.length : Int)) = false := by simp; omega
    have hgw : g < w.heap.size := by omega
    have HD := Lib.hid (fun W (hW : Kept w0 W) => (show W.cell? ⟨g, off + k * 4, none⟩ = some (.int .i64 xo) ∧ W.cell? ⟨g, off + k * 4 + 1, none⟩ = some (.int .i64 xa) ∧ W.cell? ⟨g, off + k * 4 + 2, none⟩ = some (.int .i64 xb) ∧ W.cell? ⟨g, off + k * 4 + 3, none⟩ = some (.int .i64 xc) from
      ⟨by rw [(H0.out W hW).2.2.1.cell (p := ⟨g, off + k * 4, none⟩) hgw]; exact c0, by rw [(H0.out W hW).2.2.1.cell (p := ⟨g, off + k * 4 + 1, none⟩) hgw]; exact c1, by rw [(H0.out W hW).2.2.1.cell (p := ⟨g, off + k * 4 + 2, none⟩) hgw]; exact c2, by rw [(H0.out W hW).2.2.1.cell (p := ⟨g, off + k * 4 + 3, none⟩) hgw]; exact c3⟩))
    clear hlo c0 c1 c2 c3
    have HLK := Lib.hid hlk
    clear hlk
    go_enter Try.func20, Try.ntmps20
    go_upto_region 1 with fail
    rw [← hw0]
    clear hw0
    go_wp2_with fail
    refine (HOK.out w0 hk0).mono ?_
    rintro e w1 ⟨rfl, b1⟩
    have hk1 : Kept w0 w1 := Kept.call hk0 b1
    obtain ⟨⟨y0, y1, y2⟩, y3⟩ := hwl.out w1 hk1
    clear b1
    obtain ⟨d0, d1, d2, d3⟩ := HD.out w1 hk1
    have hgw1 : g < w1.heap.size := by omega
    go_wp2_with fail
    refine (pIsLocal_any xo xa xb xc w1).mono ?_
    rw [HLK.out]
    rintro e w1b ⟨rfl, b1⟩
    replace hk1 : Kept w0 w1b := Kept.call hk1 b1
    clear y0 y1 y2 y3 d0 d1 d2 d3 hgw1
    obtain ⟨⟨y0, y1, y2⟩, y3⟩ := hwl.out w1b hk1
    clear b1
    go_wp2_with fail
    refine (HCP.out w1b hk1).mono ?_
    rintro e w2 ⟨a2, cc2, rfl, o2, b2⟩
    have hk2 : Kept w0 w2 := Kept.call hk1 b2
    obtain ⟨⟨x0, x1, x2⟩, x3, x4⟩ := hwr.out w2 hk2
    have hs1 := (H0.out w1b hk1).2.2.2
    have O2 := Lib.hid (step_end o2 hs1 (H0.out w2 hk2).2.2.1 (.int .i64 t) (.int .i64 (k : Int)) (.slice a2 rs.length cc2))
    clear o2 b2
    go_wp2_with fail
    exact bodyPost_ret (v := .tuple #[.agg #[.int .i64 t, .int .i64 (k : Int), .slice a2 rs.length cc2], .bool false]) (by simp [results, Try.results20, go_sem, x0, x1, x2]) rfl ⟨a2, cc2, rfl, O2.out⟩
  · obtain ⟨e0, e1, e2⟩ := step_yes hk hok hlo
    rw [e0, e1, e2]
    clear e0 e1 e2
    rw [hok] at HOK
    have hr4' := (laneOk_iff.1 hok).2.2.2.1
    rw [hr4'] at z2 hwl HOK hw0 ⊢
    replace HOK := Lib.hid HOK
    obtain ⟨hp, _, _, hr4, _⟩ := laneOk_iff.1 hok
    have hlen : (applyR p[k] t rs).length = 4 := by rw [applyR_len]; exact hr4
    have HST := fun W (hW : Kept w0 W) => pStepped_any W p k hk p[k] (progOk_at hp hk) (progOk_len hp) t B2 ra rs rc hr4 (HNR.out.kept ((H0.out W hW).2.2.1.mono hB2)) (Nat.le_trans hB2 (by have := (H0.out W hW).2.2.2; omega))
    replace HST := Lib.hid HST
    generalize applyR p[k] t rs = ys at *
    generalize nextR p k p[k] rs = m at *
    clear hok hp
    have hlk := hlo
    unfold locI at hlk
    obtain ⟨g, off, rfl, hg, c0, c1, c2, c3⟩ := HNP.out.at4 k hk
    generalize p[k] = x at *
    obtain ⟨xo, xa, xb, xc⟩ := x
    simp only at c0 c1 c2 c3 hlk
    have k0 : (0 : Int) ≤ (k : Int) := Int.natCast_nonneg _
    have k1 : (k : Int) < (p.length : Int) := by omega
    have hke : ((k : Int) == (p.length : Int)) = false := by simp; omega
    have hgw : g < w.heap.size := by omega
    have HD := Lib.hid (fun W (hW : Kept w0 W) => (show W.cell? ⟨g, off + k * 4, none⟩ = some (.int .i64 xo) ∧ W.cell? ⟨g, off + k * 4 + 1, none⟩ = some (.int .i64 xa) ∧ W.cell? ⟨g, off + k * 4 + 2, none⟩ = some (.int .i64 xb) ∧ W.cell? ⟨g, off + k * 4 + 3, none⟩ = some (.int .i64 xc) from
      ⟨by rw [(H0.out W hW).2.2.1.cell (p := ⟨g, off + k * 4, none⟩) hgw]; exact c0, by rw [(H0.out W hW).2.2.1.cell (p := ⟨g, off + k * 4 + 1, none⟩) hgw]; exact c1, by rw [(H0.out W hW).2.2.1.cell (p := ⟨g, off + k * 4 + 2, none⟩) hgw]; exact c2, by rw [(H0.out W hW).2.2.1.cell (p := ⟨g, off + k * 4 + 3, none⟩) hgw]; exact c3⟩))
    clear hlo c0 c1 c2 c3
    have HLK := Lib.hid hlk
    clear hlk
    go_enter Try.func20, Try.ntmps20
    go_upto_region 1 with fail
    rw [← hw0]
    clear hw0
    go_wp2_with fail
    refine (HOK.out w0 hk0).mono ?_
    rintro e w1 ⟨rfl, b1⟩
    have hk1 : Kept w0 w1 := Kept.call hk0 b1
    obtain ⟨⟨y0, y1, y2⟩, y3⟩ := hwl.out w1 hk1
    clear b1
    obtain ⟨d0, d1, d2, d3⟩ := HD.out w1 hk1
    have hgw1 : g < w1.heap.size := by omega
    go_wp2_with fail
    refine (pIsLocal_any xo xa xb xc w1).mono ?_
    rw [HLK.out]
    rintro e w1b ⟨rfl, b1⟩
    replace hk1 : Kept w0 w1b := Kept.call hk1 b1
    clear y0 y1 y2 y3 d0 d1 d2 d3 hgw1
    obtain ⟨⟨y0, y1, y2⟩, y3⟩ := hwl.out w1b hk1
    clear b1
    obtain ⟨d0, d1, d2, d3⟩ := HD.out w1b hk1
    have hgw1 : g < w1b.heap.size := by omega
    have hgn1 : g ≠ w.heap.size + 1 := by omega
    have hgn2 : w.heap.size + 1 ≠ g := by omega
    have hs1 := (H0.out w1b hk1).2.2.2
    go_upto_region 3 with fail
    go_region_held3 (fun w' => (w'.cell? ⟨w.heap.size, 0, none⟩ = some (.int .i64 t) ∧ w'.cell? ⟨w.heap.size, 1, none⟩ = some (.int .i64 (k : Int)) ∧ w'.cell? ⟨w.heap.size, 2, none⟩ = some (.slice ra 4 rc)) ∧ (w'.cell? ⟨g, off + k * 4, none⟩ = some (.int .i64 xo) ∧ w'.cell? ⟨g, off + k * 4 + 1, none⟩ = some (.int .i64 xa) ∧ w'.cell? ⟨g, off + k * 4 + 2, none⟩ = some (.int .i64 xb) ∧ w'.cell? ⟨g, off + k * 4 + 3, none⟩ = some (.int .i64 xc))) (first | go_keep | ((repeat' apply And.intro) <;> (first | (rw [hb1.cell (by simp; omega)]; simp [*]) | go_keep))) ((first
      | (go_at_call 61; refine (HST.out _ (by first | exact hk1 | exact Kept.drew hk1)).mono ?_; rintro e w2 ⟨a2, cc2, rfl, o2, hb1⟩; have O2 := Lib.hid o2; clear o2; replace hk1 : Kept w0 w2 := (by first | exact Kept.call hk1 hb1 | exact Kept.call (Kept.drew hk1) hb1); obtain ⟨⟨x0, x1, x2⟩, x3, x4⟩ := hwr.out w2 hk1)))
    go_wp2_with fail
    exact bodyPost_ret (v := .tuple #[.agg #[.int .i64 t, .int .i64 m, .slice a2 4 cc2], .bool true]) (by simp [results, Try.results20, go_sem, x0, x1, x2]) rfl ⟨a2, cc2, by rw [hlen], by first | exact step_end O2.out hs1 (H0.out w2 hk1).2.2.1 _ _ _ | exact step_endD O2.out hs1 (H0.out w2 hk1).2.2.1 _ _ _⟩

end Go.Proofs.Ytmiopbpahkgmbaa
