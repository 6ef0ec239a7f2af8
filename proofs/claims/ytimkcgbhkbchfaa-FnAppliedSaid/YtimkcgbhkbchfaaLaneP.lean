/- Lanes: the program's LocalStep. -/
import Derived.Test.YtimkcgbhkbchfaaLaneG
namespace Go.Proofs.Ytimkcgbhkbchfaa
open Go.RowKit Go

set_option maxRecDepth 100000 in
set_option maxHeartbeats 4000000 in
theorem pLocalStep_any (B : Nat) (w : World) (a : Option Addr) (p : List I4) (cap : Nat) (hl : p.length ≤ 10000000) (h : Nums B w a (flat p)) (hB : B ≤ w.heap.size) (t pc : Int) (B2 : Nat) (ra : Option Addr) (rs : List Int) (rc : Nat) (hl2 : rs.length ≤ 10000000) (h2 : Nums B2 w ra rs) (hB2 : B2 ≤ w.heap.size) :
    Calls Try.prog 18 #[.slice a p.length cap, .agg #[.int .i64 t, .int .i64 pc, .slice ra rs.length rc]] w (StepSaid t (pcS p t pc rs) (regS p t pc rs) (canStep p t pc rs) w) := by
  obtain ⟨w0, hw0⟩ : ∃ w0, w0 = (w.alloc (.cells #[.int .i64 t, .int .i64 pc, .slice ra rs.length rc] 27)).alloc (.cells #[.int .i64 0, .int .i64 0, .slice none 0 0] 27) := ⟨_, rfl⟩
  have hTB := @two_boxes w
  have H0 := Lib.hid (show ∀ W, Kept w0 W → Box 27 W w.heap.size #[.int .i64 t, .int .i64 pc, .slice ra rs.length rc] ∧ Box 27 W (w.heap.size + 1) #[.int .i64 0, .int .i64 0, .slice none 0 0] ∧ Below w.heap.size w W ∧ w.heap.size + 2 ≤ W.heap.size from fun W hW => hTB (by rw [← hw0]; exact hW))
  have HOK := fun W (hW : Kept w0 W) => pLaneOk_any B W a p cap hl (h.kept ((H0.out W hW).2.2.1.mono hB)) (Nat.le_trans hB (by have := (H0.out W hW).2.2.2; omega)) t pc B2 ra rs rc hl2 (h2.kept ((H0.out W hW).2.2.1.mono hB2)) (Nat.le_trans hB2 (by have := (H0.out W hW).2.2.2; omega))
  have HCP := Lib.hid (fun W (hW : Kept w0 W) => pClone_any B2 W ra rs rc hl2 (h2.kept ((H0.out W hW).2.2.1.mono hB2)))
  have hk0 : Kept w0 w0 := Below.refl _ _
  have HNP := Lib.hid h
  have HNR := Lib.hid h2
  clear h h2 hTB
  have hsz0 := (H0.out w0 hk0).2.2.2
  have hwl := Lib.hid (fun W (hW : Kept w0 W) => (show (W.cell? ⟨w.heap.size, 0, none⟩ = some (.int .i64 t) ∧ W.cell? ⟨w.heap.size, 1, none⟩ = some (.int .i64 pc) ∧ W.cell? ⟨w.heap.size, 2, none⟩ = some (.slice ra rs.length rc)) ∧ w.heap.size < W.heap.size from ⟨⟨(H0.out W hW).1.cell 0, (H0.out W hW).1.cell 1, (H0.out W hW).1.cell 2⟩, (H0.out W hW).1.lt⟩))
  have hwr := Lib.hid (fun W (hW : Kept w0 W) => (show (W.cell? ⟨w.heap.size + 1, 0, none⟩ = some (.int .i64 0) ∧ W.cell? ⟨w.heap.size + 1, 1, none⟩ = some (.int .i64 0) ∧ W.cell? ⟨w.heap.size + 1, 2, none⟩ = some (.slice none 0 0)) ∧ (∀ j, W.frozen? ⟨w.heap.size + 1, j, none⟩ = false) ∧ w.heap.size + 1 < W.heap.size from ⟨⟨(H0.out W hW).2.1.cell 0, (H0.out W hW).2.1.cell 1, (H0.out W hW).2.1.cell 2⟩, (H0.out W hW).2.1.frozen, (H0.out W hW).2.1.lt⟩))
  obtain ⟨⟨z0, z1, z2⟩, z3⟩ := hwl.out w0 hk0
  rcases step_ways p t pc rs with ⟨hok, hno⟩ | ⟨hok, hpe, hno⟩ | ⟨k, hk, rfl, hok, ⟨hlo, hno⟩ | hlo⟩
  · obtain ⟨e1, e2⟩ := step_no hno
    rw [e1, e2, hno]
    clear e1 e2 hno
    rw [hok] at HOK
    replace HOK := Lib.hid HOK
    clear hok
    go_enter Try.func18, Try.ntmps18
    go_upto_region 1 with fail
    rw [← hw0]
    clear hw0
    go_wp2_with fail
    refine (HOK.out w0 hk0).mono ?_
    rintro e w1 ⟨rfl, b1⟩
    have hk1 : Kept w0 w1 := Kept.call hk0 b1
    obtain ⟨⟨y0, y1, y2⟩, y3⟩ := hwl.out w1 hk1
    clear b1
    go_upto_region 2 with fail
    have hs1 := (H0.out w1 hk1).2.2.2
    go_region_held3 (fun w' => w'.cell? ⟨w.heap.size, 0, none⟩ = some (.int .i64 t) ∧ w'.cell? ⟨w.heap.size, 1, none⟩ = some (.int .i64 pc) ∧ w'.cell? ⟨w.heap.size, 2, none⟩ = some (.slice ra rs.length rc)) (first | go_keep | ((repeat' apply And.intro) <;> (first | (rw [hb1.cell (by simp; omega)]; simp [*]) | go_keep))) ((first
      | (go_at_call 54; refine (HCP.out _ (by first | exact hk1 | exact Kept.drew hk1)).mono ?_; rintro e w2 ⟨v, rfl, o2, hb1⟩; obtain ⟨a2, cc2, rfl⟩ := o2.form; have O2 := Lib.hid o2; clear o2; replace hk1 : Kept w0 w2 := (by first | exact Kept.call hk1 hb1 | exact Kept.call (Kept.drew hk1) hb1); obtain ⟨⟨x0, x1, x2⟩, x3, x4⟩ := hwr.out w2 hk1)))
    go_wp2_with fail
    exact bodyPost_ret (v := .tuple #[.agg #[.int .i64 t, .int .i64 pc, .slice a2 rs.length cc2], .bool false]) (by simp [results, Try.results18, go_sem, x0, x1, x2]) rfl ⟨a2, cc2, rfl, by first | exact step_end O2.out hs1 (H0.out w2 hk1).2.2.1 _ _ _ | exact step_endD O2.out hs1 (H0.out w2 hk1).2.2.1 _ _ _⟩
  · obtain ⟨e1, e2⟩ := step_no hno
    rw [e1, e2, hno]
    clear e1 e2 hno
    rw [hok] at HOK
    replace HOK := Lib.hid HOK
    clear hok
    subst hpe
    have hpe2 : ((p.length : Int) == (p.length : Int)) = true := by simp
    go_enter Try.func18, Try.ntmps18
    go_upto_region 1 with fail
    rw [← hw0]
    clear hw0
    go_wp2_with fail
    refine (HOK.out w0 hk0).mono ?_
    rintro e w1 ⟨rfl, b1⟩
    have hk1 : Kept w0 w1 := Kept.call hk0 b1
    obtain ⟨⟨y0, y1, y2⟩, y3⟩ := hwl.out w1 hk1
    clear b1
    go_upto_region 2 with fail
    have hs1 := (H0.out w1 hk1).2.2.2
    go_region_held3 (fun w' => w'.cell? ⟨w.heap.size, 0, none⟩ = some (.int .i64 t) ∧ w'.cell? ⟨w.heap.size, 1, none⟩ = some (.int .i64 (p.length : Int)) ∧ w'.cell? ⟨w.heap.size, 2, none⟩ = some (.slice ra rs.length rc)) (first | go_keep | ((repeat' apply And.intro) <;> (first | (rw [hb1.cell (by simp; omega)]; simp [*]) | go_keep))) ((first
      | (go_at_call 54; refine (HCP.out _ (by first | exact hk1 | exact Kept.drew hk1)).mono ?_; rintro e w2 ⟨v, rfl, o2, hb1⟩; obtain ⟨a2, cc2, rfl⟩ := o2.form; have O2 := Lib.hid o2; clear o2; replace hk1 : Kept w0 w2 := (by first | exact Kept.call hk1 hb1 | exact Kept.call (Kept.drew hk1) hb1); obtain ⟨⟨x0, x1, x2⟩, x3, x4⟩ := hwr.out w2 hk1)))
    go_wp2_with fail
    exact bodyPost_ret (v := .tuple #[.agg #[.int .i64 t, .int .i64 (p.length : Int), .slice a2 rs.length cc2], .bool false]) (by simp [results, Try.results18, go_sem, x0, x1, x2]) rfl ⟨a2, cc2, rfl, by first | exact step_end O2.out hs1 (H0.out w2 hk1).2.2.1 _ _ _ | exact step_endD O2.out hs1 (H0.out w2 hk1).2.2.1 _ _ _⟩
  · obtain ⟨e1, e2⟩ := step_no hno
    rw [e1, e2, hno]
    clear e1 e2 hno
    rw [hok] at HOK
    replace HOK := Lib.hid HOK
    clear hok
    have hlk := hlo
    unfold locI at hlk
    obtain ⟨g, off, rfl, hg, c0, c1, c2, c3⟩ := HNP.out.at4 k hk
    generalize p[k] = x at *
    obtain ⟨xo, xa, xb, xc⟩ := x
    simp only at c0 c1 c2 c3 hlk
    have k0 : (0 : Int) ≤ (k : Int) := Int.natCast_nonneg _
    have k1 : (k : Int) < (p.length : Int) := by omega
    have hke : ((k : Int) == (p.length : Int)) = false := by simp; omega
    have hgw : g < w.heap.size := by omega
    have HD := Lib.hid (fun W (hW : Kept w0 W) => (show W.cell? ⟨g, off + k * 4, none⟩ = some (.int .i64 xo) ∧ W.cell? ⟨g, off + k * 4 + 1, none⟩ = some (.int .i64 xa) ∧ W.cell? ⟨g, off + k * 4 + 2, none⟩ = some (.int .i64 xb) ∧ W.cell? ⟨g, off + k * 4 + 3, none⟩ = some (.int .i64 xc) from
      ⟨by rw [(H0.out W hW).2.2.1.cell (p := ⟨g, off + k * 4, none⟩) hgw]; exact c0, by rw [(H0.out W hW).2.2.1.cell (p := ⟨g, off + k * 4 + 1, none⟩) hgw]; exact c1, by rw [(H0.out W hW).2.2.1.cell (p := ⟨g, off + k * 4 + 2, none⟩) hgw]; exact c2, by rw [(H0.out W hW).2.2.1.cell (p := ⟨g, off + k * 4 + 3, none⟩) hgw]; exact c3⟩))
    clear hlo c0 c1 c2 c3
    have HLK := Lib.hid hlk
    clear hlk
    go_enter Try.func18, Try.ntmps18
    go_upto_region 1 with fail
    rw [← hw0]
    clear hw0
    go_wp2_with fail
    refine (HOK.out w0 hk0).mono ?_
    rintro e w1 ⟨rfl, b1⟩
    have hk1 : Kept w0 w1 := Kept.call hk0 b1
    obtain ⟨⟨y0, y1, y2⟩, y3⟩ := hwl.out w1 hk1
    clear b1
    obtain ⟨d0, d1, d2, d3⟩ := HD.out w1 hk1
    have hgw1 : g < w1.heap.size := by omega
    go_wp2_with fail
    refine (pIsLocal_any xo xa xb xc w1).mono ?_
    rw [HLK.out]
    rintro e w1b ⟨rfl, b1⟩
    replace hk1 : Kept w0 w1b := Kept.call hk1 b1
    clear y0 y1 y2 y3 d0 d1 d2 d3 hgw1
    obtain ⟨⟨y0, y1, y2⟩, y3⟩ := hwl.out w1b hk1
    clear b1
    go_upto_region 2 with fail
    have hs1 := (H0.out w1b hk1).2.2.2
    go_region_held3 (fun w' => w'.cell? ⟨w.heap.size, 0, none⟩ = some (.int .i64 t) ∧ w'.cell? ⟨w.heap.size, 1, none⟩ = some (.int .i64 (k : Int)) ∧ w'.cell? ⟨w.heap.size, 2, none⟩ = some (.slice ra rs.length rc)) (first | go_keep | ((repeat' apply And.intro) <;> (first | (rw [hb1.cell (by simp; omega)]; simp [*]) | go_keep))) ((first
      | (go_at_call 54; refine (HCP.out _ (by first | exact hk1 | exact Kept.drew hk1)).mono ?_; rintro e w2 ⟨v, rfl, o2, hb1⟩; obtain ⟨a2, cc2, rfl⟩ := o2.form; have O2 := Lib.hid o2; clear o2; replace hk1 : Kept w0 w2 := (by first | exact Kept.call hk1 hb1 | exact Kept.call (Kept.drew hk1) hb1); obtain ⟨⟨x0, x1, x2⟩, x3, x4⟩ := hwr.out w2 hk1)))
    go_wp2_with fail
    exact bodyPost_ret (v := .tuple #[.agg #[.int .i64 t, .int .i64 (k : Int), .slice a2 rs.length cc2], .bool false]) (by simp [results, Try.results18, go_sem, x0, x1, x2]) rfl ⟨a2, cc2, rfl, by first | exact step_end O2.out hs1 (H0.out w2 hk1).2.2.1 _ _ _ | exact step_endD O2.out hs1 (H0.out w2 hk1).2.2.1 _ _ _⟩
  · obtain ⟨e0, e1, e2⟩ := step_yes hk hok hlo
    rw [e0, e1, e2]
    clear e0 e1 e2
    rw [hok] at HOK
    have hr4' := (laneOk_iff.1 hok).2.2.2.1
    rw [hr4'] at z2 hwl HOK hw0 ⊢
    replace HOK := Lib.hid HOK
    obtain ⟨hp, _, _, hr4, _⟩ := laneOk_iff.1 hok
    have hlen : (applyR p[k] t rs).length = 4 := by rw [applyR_len]; exact hr4
    have HX := Lib.hid (progOk_at hp hk)
    have HPC := fun (W : World) (N : Nums B2 W ra rs) (hs : B2 ≤ W.heap.size) => pPcAfter_any W t k p[k] p.length (progOk_at hp hk) p (by omega) rs hr4 B2 ra rc N hs
    have HRG := fun (W : World) (N : Nums B2 W ra rs) (hs : B2 ≤ W.heap.size) => pRegs_any B2 W p[k] p.length t k rs ra rc (progOk_at hp hk) hr4 N hs
    have HNW := Lib.hid (fun W (hW : Kept w0 W) => (show Nums B2 W ra rs ∧ B2 ≤ W.heap.size from ⟨HNR.out.kept ((H0.out W hW).2.2.1.mono hB2), Nat.le_trans hB2 (by have := (H0.out W hW).2.2.2; omega)⟩))
    replace HPC := Lib.hid HPC
    replace HRG := Lib.hid HRG
    clear HX
    generalize applyR p[k] t rs = ys at *
    generalize nextR p k p[k] rs = m at *
    clear hok hp
    have hlk := hlo
    unfold locI at hlk
    obtain ⟨g, off, rfl, hg, c0, c1, c2, c3⟩ := HNP.out.at4 k hk
    generalize p[k] = x at *
    obtain ⟨xo, xa, xb, xc⟩ := x
    simp only at c0 c1 c2 c3 hlk
    have k0 : (0 : Int) ≤ (k : Int) := Int.natCast_nonneg _
    have k1 : (k : Int) < (p.length : Int) := by omega
    have hke : ((k : Int) == (p.length : Int)) = false := by simp; omega
    have hgw : g < w.heap.size := by omega
    have HD := Lib.hid (fun W (hW : Kept w0 W) => (show W.cell? ⟨g, off + k * 4, none⟩ = some (.int .i64 xo) ∧ W.cell? ⟨g, off + k * 4 + 1, none⟩ = some (.int .i64 xa) ∧ W.cell? ⟨g, off + k * 4 + 2, none⟩ = some (.int .i64 xb) ∧ W.cell? ⟨g, off + k * 4 + 3, none⟩ = some (.int .i64 xc) from
      ⟨by rw [(H0.out W hW).2.2.1.cell (p := ⟨g, off + k * 4, none⟩) hgw]; exact c0, by rw [(H0.out W hW).2.2.1.cell (p := ⟨g, off + k * 4 + 1, none⟩) hgw]; exact c1, by rw [(H0.out W hW).2.2.1.cell (p := ⟨g, off + k * 4 + 2, none⟩) hgw]; exact c2, by rw [(H0.out W hW).2.2.1.cell (p := ⟨g, off + k * 4 + 3, none⟩) hgw]; exact c3⟩))
    clear hlo c0 c1 c2 c3
    have HLK := Lib.hid hlk
    clear hlk
    simp only at HPC HRG
    go_enter Try.func18, Try.ntmps18
    go_upto_region 1 with fail
    rw [← hw0]
    clear hw0
    go_wp2_with fail
    refine (HOK.out w0 hk0).mono ?_
    rintro e w1 ⟨rfl, b1⟩
    have hk1 : Kept w0 w1 := Kept.call hk0 b1
    obtain ⟨⟨y0, y1, y2⟩, y3⟩ := hwl.out w1 hk1
    clear b1
    obtain ⟨d0, d1, d2, d3⟩ := HD.out w1 hk1
    have hgw1 : g < w1.heap.size := by omega
    go_wp2_with fail
    refine (pIsLocal_any xo xa xb xc w1).mono ?_
    rw [HLK.out]
    rintro e w1b ⟨rfl, b1⟩
    replace hk1 : Kept w0 w1b := Kept.call hk1 b1
    clear y0 y1 y2 y3 d0 d1 d2 d3 hgw1
    obtain ⟨⟨y0, y1, y2⟩, y3⟩ := hwl.out w1b hk1
    clear b1
    obtain ⟨d0, d1, d2, d3⟩ := HD.out w1b hk1
    have hgw1 : g < w1b.heap.size := by omega
    go_upto_region 4 with fail
    obtain ⟨w5, hw5⟩ : ∃ w5, w5 = w1b.alloc (.cells #[.int .i64 xo, .int .i64 xa, .int .i64 xb, .int .i64 xc] 33) := ⟨_, rfl⟩
    rw [← hw5]
    have hk5 : Kept w0 w5 := by rw [hw5]; exact Kept.alloc hk1 _
    have HI := Box.new 33 w1b #[.int .i64 xo, .int .i64 xa, .int .i64 xb, .int .i64 xc]
    rw [← hw5] at HI
    have i0 := HI.cell 0; have i1 := HI.cell 1; have i2 := HI.cell 2; have i3 := HI.cell 3
    have i4 := HI.lt
    simp at i0 i1 i2 i3
    obtain ⟨⟨u0, u1, u2⟩, u3⟩ := hwl.out w5 hk5
    clear y0 y1 y2 y3 d0 d1 d2 d3 HI
    have hs5 := (H0.out w5 hk5).2.2.2
    have hk6 : Kept w5 w5 := Below.refl _ _
    have hz6 := hk6.size
    have HKK := Lib.hid (fun (W : World) (hW : Kept w5 W) => (show Kept w0 W from Below.trans hk5 (Below.mono hW hk5.size)))
    have hz5 : w1b.heap.size < w5.heap.size := i4
    have hs1b := (H0.out w1b hk1).2.2.2
    have hne1 : w1b.heap.size ≠ w.heap.size + 1 := by omega
    have hne2 : w.heap.size + 1 ≠ w1b.heap.size := by omega
    clear hw5
    go_region_held3 (fun w' => (w'.cell? ⟨w.heap.size, 0, none⟩ = some (.int .i64 t) ∧ w'.cell? ⟨w.heap.size, 1, none⟩ = some (.int .i64 (k : Int)) ∧ w'.cell? ⟨w.heap.size, 2, none⟩ = some (.slice ra 4 rc)) ∧ (w'.cell? ⟨w1b.heap.size, 0, none⟩ = some (.int .i64 xo) ∧ w'.cell? ⟨w1b.heap.size, 1, none⟩ = some (.int .i64 xa) ∧ w'.cell? ⟨w1b.heap.size, 2, none⟩ = some (.int .i64 xb) ∧ w'.cell? ⟨w1b.heap.size, 3, none⟩ = some (.int .i64 xc))) (first | go_keep | ((repeat' apply And.intro) <;> (first | (rw [hb1.cell (by simp; omega)]; simp [*]) | go_keep))) ((first
      | (go_at_call 55; refine (HPC.out _ (HNW.out _ (HKK.out _ (by first | exact hk6 | exact Kept.drew hk6))).1 (HNW.out _ (HKK.out _ (by first | exact hk6 | exact Kept.drew hk6))).2).mono ?_; rintro e w6 ⟨rfl, hb1⟩; replace hk6 : Kept w5 w6 := (by first | exact Kept.call hk6 hb1 | exact Kept.call (Kept.drew hk6) hb1); have hz6 := hk6.size)
      | (go_at_call 49; refine (HRG.out _ (HNW.out _ (HKK.out _ (by first | exact hk6 | exact Kept.drew hk6))).1 (HNW.out _ (HKK.out _ (by first | exact hk6 | exact Kept.drew hk6))).2).mono ?_; rintro e w7 ⟨v, rfl, o2, hb1⟩; obtain ⟨a2, cc2, rfl⟩ := o2.form; have O2 := Lib.hid o2; clear o2; replace hk6 : Kept w5 w7 := (by first | exact Kept.call hk6 hb1 | exact Kept.call (Kept.drew hk6) hb1); have hz7 := hk6.size; obtain ⟨⟨x0, x1, x2⟩, x3, x4⟩ := hwr.out w7 (HKK.out w7 hk6))))
    go_wp2_with fail
    exact bodyPost_ret (v := .tuple #[.agg #[.int .i64 t, .int .i64 m, .slice a2 4 cc2], .bool true]) (by simp [results, Try.results18, go_sem, x0, x1, x2]) rfl ⟨a2, cc2, by rw [hlen], by first | exact step_end O2.out (by omega) (H0.out w7 (HKK.out w7 hk6)).2.2.1 _ _ _ | exact step_endD O2.out (by omega) (H0.out w7 (HKK.out w7 hk6)).2.2.1 _ _ _⟩

end Go.Proofs.Ytimkcgbhkbchfaa
