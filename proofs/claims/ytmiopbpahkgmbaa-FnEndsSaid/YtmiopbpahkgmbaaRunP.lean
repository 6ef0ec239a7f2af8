/- Lanes that run alone: the program's RunLane. -/
import Derived.Test.YtmiopbpahkgmbaaRunM
import Derived.WalkMore
import Derived.Deep.RegionHeld3
namespace Go.Proofs.Ytmiopbpahkgmbaa
open Go.RowKit Go

def RunJ (w w0 : World) (a : Option Addr) (p : List I4) (n cap : Nat) (t : Int) (N : Nat) (pc : Int) (rs : List Int) (a' : Act) (w' : World) : Prop := ∃ (u1 u3 u4 u5 u10 u11 u12 u13 u14 u15 u16 u17 u18 u19 u20 u21 u22 u23 u24 u25 u26 u27 u28 u29 u30 u31 u32 u33 u34 u35 u36 u37 u38 u39 u40 u41 u42 u43 u44 u45 u46 u47 u48 u49 u50 u51 u52 : Value) (g c : Nat) (cc k : Int) (ys : List Int) (a5 : Option Addr) (c5 : Nat),
  a' = { tmps := #[.slice a n cap, u1, .int .i64 (N : Int), u3, u4, u5, .pointer (some ⟨w.heap.size + 1, 0, none⟩), .int .i64 0, .pointer (some ⟨g, 0, none⟩), .int .i64 cc, u10, u11, u12, u13, u14, u15, u16, u17, u18, u19, u20, u21, u22, u23, u24, u25, u26, u27, u28, u29, u30, u31, u32, u33, u34, u35, u36, u37, u38, u39, u40, u41, u42, u43, u44, u45, u46, u47, u48, u49, u50, u51, u52], defers := [] } ∧ cc = (c : Int) ∧ RunAt w0 w' g t k a5 c5 ys ∧ RunRel p t N pc rs k ys c

set_option maxRecDepth 100000 in
set_option maxHeartbeats 4000000 in
theorem pRunLane_any (B : Nat) (w : World) (a : Option Addr) (p : List I4) (cap : Nat) (hl : p.length ≤ 10000000) (h : Nums B w a (flat p)) (hB : B ≤ w.heap.size) (t pc : Int) (B2 : Nat) (ra : Option Addr) (rs : List Int) (rc : Nat) (hl2 : rs.length ≤ 10000000) (h2 : Nums B2 w ra rs) (hB2 : B2 ≤ w.heap.size) (n : Int) :
    Calls Try.prog 24 #[.slice a p.length cap, .agg #[.int .i64 t, .int .i64 pc, .slice ra rs.length rc], .int .i64 n] w (RunSaid t (rnP p t pc rs n) (rnR p t pc rs n) (rnN p t pc rs n) w) := by
  obtain ⟨w0, hw0⟩ : ∃ w0, w0 = (w.alloc (.cells #[.int .i64 t, .int .i64 pc, .slice ra rs.length rc] 27)).alloc (.cells #[.int .i64 0, .int .i64 0, .slice none 0 0] 27) := ⟨_, rfl⟩
  have hTB := @two_boxes w
  have H0 := Lib.hid (show ∀ W, Kept w0 W → Box 27 W w.heap.size #[.int .i64 t, .int .i64 pc, .slice ra rs.length rc] ∧ Box 27 W (w.heap.size + 1) #[.int .i64 0, .int .i64 0, .slice none 0 0] ∧ Below w.heap.size w W ∧ w.heap.size + 2 ≤ W.heap.size from fun W hW => hTB (by rw [← hw0]; exact hW))
  have HQ := fun W (hW : Kept w0 W) => pIsQuiet_any B W a p cap hl (h.kept ((H0.out W hW).2.2.1.mono hB)) (Nat.le_trans hB (by have := (H0.out W hW).2.2.2; omega))
  have HOK := fun W (hW : Kept w0 W) => pLaneOk_any B W a p cap hl (h.kept ((H0.out W hW).2.2.1.mono hB)) (Nat.le_trans hB (by have := (H0.out W hW).2.2.2; omega)) t pc B2 ra rs rc hl2 (h2.kept ((H0.out W hW).2.2.1.mono hB2)) (Nat.le_trans hB2 (by have := (H0.out W hW).2.2.2; omega))
  have HCP := Lib.hid (fun W (hW : Kept w0 W) => pCopied_any t pc B2 W ra rs rc hl2 (h2.kept ((H0.out W hW).2.2.1.mono hB2)) (Nat.le_trans hB2 (by have := (H0.out W hW).2.2.2; omega)))
  have HST := fun (hpk : progOk p = true) (HNP : Hid (Nums B w a (flat p))) => fun W (hW : Kept w0 W) k (hk : k < p.length) B3 a5 ys c5 (hy : ys.length = 4) N hN => pStepped_any W p k hk p[k] (progOk_at hpk hk) (progOk_len hpk) t B3 a5 ys c5 hy N hN
  have hk0 : Kept w0 w0 := Below.refl _ _
  have HNP := Lib.hid h
  clear h h2 hTB
  have hwl := Lib.hid (fun W (hW : Kept w0 W) => (show (W.cell? ⟨w.heap.size, 0, none⟩ = some (.int .i64 t) ∧ W.cell? ⟨w.heap.size, 1, none⟩ = some (.int .i64 pc) ∧ W.cell? ⟨w.heap.size, 2, none⟩ = some (.slice ra rs.length rc)) ∧ w.heap.size < W.heap.size from ⟨⟨(H0.out W hW).1.cell 0, (H0.out W hW).1.cell 1, (H0.out W hW).1.cell 2⟩, (H0.out W hW).1.lt⟩))
  have hwr := Lib.hid (fun W (hW : Kept w0 W) => (show (W.cell? ⟨w.heap.size + 1, 0, none⟩ = some (.int .i64 0) ∧ W.cell? ⟨w.heap.size + 1, 1, none⟩ = some (.int .i64 0) ∧ W.cell? ⟨w.heap.size + 1, 2, none⟩ = some (.slice none 0 0)) ∧ (∀ j, W.frozen? ⟨w.heap.size + 1, j, none⟩ = false) ∧ w.heap.size + 1 < W.heap.size from ⟨⟨(H0.out W hW).2.1.cell 0, (H0.out W hW).2.1.cell 1, (H0.out W hW).2.1.cell 2⟩, (H0.out W hW).2.1.frozen, (H0.out W hW).2.1.lt⟩))
  have HZ0 := Lib.hid (show w0.heap.size = w.heap.size + 2 by rw [hw0]; simp)
  obtain ⟨⟨z0, z1, z2⟩, z3⟩ := hwl.out w0 hk0
  cases hq : quietOk p with
  | false =>
    rw [hq] at HQ
    have hno : runOk p t pc rs n = false := by unfold runOk; rw [hq]; rfl
    obtain ⟨e1, e2, e3⟩ := rn_no hno
    rw [e1, e2, e3]
    replace HQ := Lib.hid HQ
    clear e1 e2 e3 hno hq HST HOK
    go_enter Try.func24, Try.ntmps24
    go_wp2_with fail
    refine wp_scope_straight ?_
    go_upto_region 1 with fail
    rw [← hw0]
    clear hw0
    go_wp2_with fail
    refine (HCP.out w0 hk0).mono ?_
    rintro e w1 ⟨a4, c4, rfl, o4, b4⟩
    have hk1 : Kept w0 w1 := Kept.call hk0 b4
    clear z0 z1 z2 z3 b4
    go_upto_region 2 with fail
    obtain ⟨w2, hw2⟩ : ∃ w2, w2 = w1.alloc (.cells #[.int .i64 t, .int .i64 pc, .slice a4 rs.length c4] 27) := ⟨_, rfl⟩
    rw [← hw2]
    have hk2 : Kept w0 w2 := by rw [hw2]; exact hk1.alloc _
    have HX2 := Lib.hid (show Own w0.heap.size w2 (.slice a4 rs.length c4) rs by rw [hw2]; exact o4.alloc _)
    have HB2 := Lib.hid (show Box 27 w2 w1.heap.size #[.int .i64 t, .int .i64 pc, .slice a4 rs.length c4] by rw [hw2]; exact Box.new _ _ _)
    clear hw2 o4
    obtain ⟨⟨z0, z1, z2⟩, z3⟩ := hwl.out w2 hk2
    go_wp2_with fail
    refine (HQ.out w2 hk2).mono ?_
    rintro e w3 ⟨rfl, b3⟩
    have hk3 : Kept w0 w3 := Kept.call hk2 b3
    have HX3 := Lib.hid (HX2.out.below b3)
    have HB3 := Lib.hid (HB2.out.below b3)
    clear b3 z0 z1 z2 z3
    obtain ⟨⟨x0, x1, x2⟩, x3, x4⟩ := hwr.out w3 hk3
    obtain ⟨⟨l0, l1, l2⟩, lf, ll⟩ := HB3.out.three
    clear lf
    have hgn1 : w1.heap.size ≠ w.heap.size + 1 := by have := hk1.size; have := HZ0.out; omega
    have hgn2 : w.heap.size + 1 ≠ w1.heap.size := by omega
    go_wp2_with fail
    exact bodyPost_ret (v := .tuple #[.agg #[.int .i64 t, .int .i64 pc, .slice a4 rs.length c4], .int .i64 (-1)]) (by simp [results, Try.results24, go_sem, x0, x1, x2]) rfl ⟨a4, c4, rfl, end3 HX3.out (by have := HZ0.out; omega) (by omega) (H0.out w3 hk3).2.2.1 _ _ _⟩
  | true =>
    rw [hq] at HQ
    replace HQ := Lib.hid HQ
    cases hok : laneOk p t pc rs with
    | false =>
      rw [hok] at HOK
      have hno : runOk p t pc rs n = false := by unfold runOk; rw [hok, Bool.false_and, Bool.and_false]
      obtain ⟨e1, e2, e3⟩ := rn_no hno
      rw [e1, e2, e3]
      replace HOK := Lib.hid HOK
      clear e1 e2 e3 hno hq hok HST
      go_enter Try.func24, Try.ntmps24
      go_wp2_with fail
      refine wp_scope_straight ?_
      go_upto_region 1 with fail
      rw [← hw0]
      clear hw0
      go_wp2_with fail
      refine (HCP.out w0 hk0).mono ?_
      rintro e w1 ⟨a4, c4, rfl, o4, b4⟩
      have hk1 : Kept w0 w1 := Kept.call hk0 b4
      clear z0 z1 z2 z3 b4
      go_upto_region 2 with fail
      obtain ⟨w2, hw2⟩ : ∃ w2, w2 = w1.alloc (.cells #[.int .i64 t, .int .i64 pc, .slice a4 rs.length c4] 27) := ⟨_, rfl⟩
      rw [← hw2]
      have hk2 : Kept w0 w2 := by rw [hw2]; exact hk1.alloc _
      have HX2 := Lib.hid (show Own w0.heap.size w2 (.slice a4 rs.length c4) rs by rw [hw2]; exact o4.alloc _)
      have HB2 := Lib.hid (show Box 27 w2 w1.heap.size #[.int .i64 t, .int .i64 pc, .slice a4 rs.length c4] by rw [hw2]; exact Box.new _ _ _)
      clear hw2 o4
      obtain ⟨⟨z0, z1, z2⟩, z3⟩ := hwl.out w2 hk2
      go_wp2_with fail
      refine (HQ.out w2 hk2).mono ?_
      rintro e w3 ⟨rfl, b3⟩
      have hk3 : Kept w0 w3 := Kept.call hk2 b3
      have HX3 := Lib.hid (HX2.out.below b3)
      have HB3 := Lib.hid (HB2.out.below b3)
      clear b3 z0 z1 z2 z3
      obtain ⟨⟨z0, z1, z2⟩, z3⟩ := hwl.out w3 hk3
      go_wp2_with fail
      refine (HOK.out w3 hk3).mono ?_
      rintro e w4 ⟨rfl, b4⟩
      have hk4 : Kept w0 w4 := Kept.call hk3 b4
      have HX4 := Lib.hid (HX3.out.below b4)
      have HB4 := Lib.hid (HB3.out.below b4)
      clear b4 z0 z1 z2 z3
      obtain ⟨⟨x0, x1, x2⟩, x3, x4⟩ := hwr.out w4 hk4
      obtain ⟨⟨l0, l1, l2⟩, lf, ll⟩ := HB4.out.three
      clear lf
      have hgn1 : w1.heap.size ≠ w.heap.size + 1 := by have := hk1.size; have := HZ0.out; omega
      have hgn2 : w.heap.size + 1 ≠ w1.heap.size := by omega
      go_wp2_with fail
      exact bodyPost_ret (v := .tuple #[.agg #[.int .i64 t, .int .i64 pc, .slice a4 rs.length c4], .int .i64 (-1)]) (by simp [results, Try.results24, go_sem, x0, x1, x2]) rfl ⟨a4, c4, rfl, end3 HX4.out (by have := HZ0.out; omega) (by omega) (H0.out w4 hk4).2.2.1 _ _ _⟩
    | true =>
      rw [hok] at HOK
      replace HOK := Lib.hid HOK
      by_cases hn : 0 ≤ n ∧ n ≤ 1000
      · obtain ⟨N, rfl⟩ := Int.eq_ofNat_of_zero_le hn.1
        have hyes : runOk p t pc rs (N : Int) = true := runOk_iff.2 ⟨hq, hok, hn⟩
        obtain ⟨e1, e2, e3⟩ := rn_yes hyes
        rw [e1, e2, e3]
        have hN : N ≤ 1000 := by omega
        have hpk := (quiet_iff.1 hq).2
        have hr4 := (laneOk_iff.1 hok).2.2.2.1
        have hF := RunRel.first (N := N) hok
        replace HST := Lib.hid (HST hpk HNP)
        have HQQ := Lib.hid hq
        have HPK := Lib.hid hpk
        have h32 := progOk_len hpk
        rw [hr4] at hwl HCP HOK H0 hw0 ⊢
        have HF := Lib.hid hF
        clear e1 e2 e3 hyes hok hq hpk hF
        go_enter Try.func24, Try.ntmps24
        go_wp2_with fail
        refine wp_scope_from (rest := ?rest) 0 (RunJ w w0 a p p.length cap t N pc rs) (fun a' _ => N - (intOf (a'.tmps.getD 9 (.int .i64 0))).toNat) ?hf ?pass ?first
        case hf => exact rfl
        case pass =>
          rintro a' w' ⟨u1, u3, u4, u5, u10, u11, u12, u13, u14, u15, u16, u17, u18, u19, u20, u21, u22, u23, u24, u25, u26, u27, u28, u29, u30, u31, u32, u33, u34, u35, u36, u37, u38, u39, u40, u41, u42, u43, u44, u45, u46, u47, u48, u49, u50, u51, u52, g, c, cc, k, ys, a5, c5, rfl, rfl, hAt, hRel⟩
          have HAT := Lib.hid hAt
          have HREL := Lib.hid hRel
          obtain ⟨hkW, hBx, hOw, _, hg⟩ := hAt
          obtain ⟨hv, hcN, _, _⟩ := hRel
          have hys := (laneOk_iff.1 hv).2.2.2.1
          have HNY := Lib.hid (Own.nums hOw (words_rng (laneOk_iff.1 hv).2.2.2.2) (Nat.le_refl _))
          have HOW := Lib.hid hOw
          have HBW := Lib.hid (H0.out w' hkW).2.2.1
          have hs1 := (H0.out w' hkW).2.2.2
          have HQS := Lib.hid (quiet_step HQQ.out hv)
          obtain ⟨⟨x0, x1, x2⟩, x3, x4⟩ := hwr.out w' hkW
          obtain ⟨⟨l0, l1, l2⟩, lf, ll⟩ := hBx.three
          have hgn1 : g ≠ w.heap.size + 1 := by have := HZ0.out; omega
          have hgn2 : w.heap.size + 1 ≠ g := by have := HZ0.out; omega
          clear hBx hOw hv
          have HD := Lib.hid hcN
          by_cases hc : c < N
          · rcases HQS.out with ⟨hke, _⟩ | ⟨j, hj, rfl, _, _, _⟩
            · subst hke
              clear lf
              obtain ⟨e1, e2, e3⟩ := HREL.out.stop (.inr rfl)
              rw [e1, e2, e3]
              clear e1 e2 e3 HST HD
              go_wp2_with fail
              simp only [Exit.jump]
              exact bodyPost_ret (v := .tuple #[.agg #[.int .i64 t, .int .i64 (p.length : Int), .slice a5 4 c5], .int .i64 (c : Int)]) (by simp [results, Try.results24, go_sem, x0, x1, x2]) rfl ⟨a5, c5, by rw [hys], by rw [hys]; exact end3 HOW.out (by have := HZ0.out; omega) (by omega) HBW.out _ _ _⟩
            · have HSJ := fun W (hW : Kept w' W) => HST.out W (hkW.call hW) j hj w'.heap.size a5 ys c5 hys (HNY.out.kept hW) hW.size
              have HNX := Lib.hid (HREL.out.next HQQ.out hc hj)
              have hzl : (applyR p[j] t ys).length = 4 := by rw [applyR_len]; exact hys
              obtain ⟨gp, off, rfl, hgp, c0, c1, c2, c3⟩ := HNP.out.at4 j hj
              have HAG := HAT
              clear HAT HQS HREL HST
              generalize applyR p[j] t ys = zs at *
              generalize nextR p j p[j] ys = m at *
              generalize p[j] = x at *
              obtain ⟨xo, xa, xb, xc⟩ := x
              simp only at c0 c1 c2 c3 HSJ
              replace HSJ := Lib.hid HSJ
              have hgp0 : gp < w.heap.size := by omega
              have HDD := Lib.hid (show w'.cell? ⟨gp, off + j * 4, none⟩ = some (.int .i64 xo) ∧ w'.cell? ⟨gp, off + j * 4 + 1, none⟩ = some (.int .i64 xa) ∧ w'.cell? ⟨gp, off + j * 4 + 2, none⟩ = some (.int .i64 xb) ∧ w'.cell? ⟨gp, off + j * 4 + 3, none⟩ = some (.int .i64 xc) from
                ⟨by rw [HBW.out.cell (p := ⟨gp, off + j * 4, none⟩) hgp0]; exact c0, by rw [HBW.out.cell (p := ⟨gp, off + j * 4 + 1, none⟩) hgp0]; exact c1, by rw [HBW.out.cell (p := ⟨gp, off + j * 4 + 2, none⟩) hgp0]; exact c2, by rw [HBW.out.cell (p := ⟨gp, off + j * 4 + 3, none⟩) hgp0]; exact c3⟩)
              obtain ⟨d0, d1, d2, d3⟩ := HDD.out
              have k0 : (0 : Int) ≤ (j : Int) := Int.natCast_nonneg _
              have k1 : (j : Int) < (p.length : Int) := by omega
              have hgpw : gp < w'.heap.size := by omega
              have hgg1 : gp ≠ g := by have := HZ0.out; omega
              have hgg2 : g ≠ gp := by have := HZ0.out; omega
              have HBX := Lib.hid HAG.out.2.1
              have hk1 : Kept w' w' := Below.refl _ _
              have hc1 : (c : Int) < (N : Int) := by omega
              have hw64 : IntKind.i64.wrap ((c : Int) + 1) = (c : Int) + 1 := IntWalk.i64_in _ (by omega)
              clear c0 c1 c2 c3 x0 x1 x2 x3 x4 HDD hcN HD
              go_upto_region 6 with fail
              go_region_with ((first
                | (go_at_call 61; refine (HSJ.out _ (by first | exact hk1 | exact Kept.drew hk1)).mono ?_; rintro e w4 ⟨a6, c6, rfl, o6, hb1⟩; have hlt6 := hb1.size; have O6 := Lib.hid o6; clear o6; replace hk1 : Kept w' w4 := (by first | exact Kept.call hk1 hb1 | exact Kept.call (Kept.drew hk1) hb1); obtain ⟨⟨y0, y1, y2⟩, y3, y4⟩ := (HBX.out.below hk1).three)))
              all_goals go_wp2_with fail
              all_goals go_step3
              all_goals refine ⟨rfl, ⟨_, _, _, _, _, _, _, _, _, _, _, _, _, _, _, _, _, _, _, _, _, _, _, _, _, _, _, _, _, _, _, _, _, _, _, _, _, _, _, _, _, _, _, _, _, _, _, g, c + 1, _, m, zs, a6, c6, rfl, by omega, by first | exact HAG.out.next hk1 (hzl ▸ O6.out) ll | exact (HAG.out.next hk1 (hzl ▸ O6.out) ll).drew, HNX.out⟩, ?_⟩
              all_goals (simp [intOf]; omega)
          · have hce : c = N := by omega
            subst hce
            clear lf
            obtain ⟨e1, e2, e3⟩ := HREL.out.stop (.inl rfl)
            rw [e1, e2, e3]
            clear e1 e2 e3 HST HD
            go_wp2_with fail
            simp only [Exit.jump]
            exact bodyPost_ret (v := .tuple #[.agg #[.int .i64 t, .int .i64 k, .slice a5 4 c5], .int .i64 (c : Int)]) (by simp [results, Try.results24, go_sem, x0, x1, x2]) rfl ⟨a5, c5, by rw [hys], by rw [hys]; exact end3 HOW.out (by have := HZ0.out; omega) (by omega) HBW.out _ _ _⟩
        case first =>
          intro hgo
          go_upto_region 1 with fail
          rw [← hw0]
          clear hw0
          go_wp2_with fail
          refine (HCP.out w0 hk0).mono ?_
          rintro e w1 ⟨a4, c4, rfl, o4, b4⟩
          have hk1 : Kept w0 w1 := Kept.call hk0 b4
          clear z0 z1 z2 z3 b4
          go_upto_region 2 with fail
          obtain ⟨w2, hw2⟩ : ∃ w2, w2 = w1.alloc (.cells #[.int .i64 t, .int .i64 pc, .slice a4 4 c4] 27) := ⟨_, rfl⟩
          rw [← hw2]
          have hk2 : Kept w0 w2 := by rw [hw2]; exact hk1.alloc _
          have HA2 := Lib.hid (show RunAt w0 w2 w1.heap.size t pc a4 c4 rs by rw [hw2]; rw [hr4] at o4; exact RunAt.first hk1 o4)
          clear hw2 o4
          obtain ⟨⟨z0, z1, z2⟩, z3⟩ := hwl.out w2 hk2
          go_wp2_with fail
          refine (HQ.out w2 hk2).mono ?_
          rintro e w3 ⟨rfl, b3⟩
          have hk3 : Kept w0 w3 := Kept.call hk2 b3
          have HA3 := Lib.hid (HA2.out.call b3)
          clear b3 z0 z1 z2 z3
          obtain ⟨⟨z0, z1, z2⟩, z3⟩ := hwl.out w3 hk3
          go_wp2_with fail
          refine (HOK.out w3 hk3).mono ?_
          rintro e w4 ⟨rfl, b4⟩
          have HA4 := Lib.hid (HA3.out.call b4)
          clear b4 z0 z1 z2 z3
          go_wp2_with fail
          go_step3
          rename_i KK hKK
          exact hKK _ _ (hgo _ _ ⟨_, _, _, _, _, _, _, _, _, _, _, _, _, _, _, _, _, _, _, _, _, _, _, _, _, _, _, _, _, _, _, _, _, _, _, _, _, _, _, _, _, _, _, _, _, _, _, _, 0, _, _, _, _, _, rfl, rfl, HA4.out, HF.out⟩)
      · have hno : runOk p t pc rs n = false := by
          cases h : runOk p t pc rs n with
          | false => rfl
          | true => exact absurd (runOk_iff.1 h).2.2 hn
        obtain ⟨e1, e2, e3⟩ := rn_no hno
        rw [e1, e2, e3]
        clear e1 e2 e3 hno hq hok HST
        by_cases hn0 : n < 0
        · clear hn
          go_enter Try.func24, Try.ntmps24
          go_wp2_with fail
          refine wp_scope_straight ?_
          go_upto_region 1 with fail
          rw [← hw0]
          clear hw0
          go_wp2_with fail
          refine (HCP.out w0 hk0).mono ?_
          rintro e w1 ⟨a4, c4, rfl, o4, b4⟩
          have hk1 : Kept w0 w1 := Kept.call hk0 b4
          clear z0 z1 z2 z3 b4
          go_upto_region 2 with fail
          obtain ⟨w2, hw2⟩ : ∃ w2, w2 = w1.alloc (.cells #[.int .i64 t, .int .i64 pc, .slice a4 rs.length c4] 27) := ⟨_, rfl⟩
          rw [← hw2]
          have hk2 : Kept w0 w2 := by rw [hw2]; exact hk1.alloc _
          have HX2 := Lib.hid (show Own w0.heap.size w2 (.slice a4 rs.length c4) rs by rw [hw2]; exact o4.alloc _)
          have HB2 := Lib.hid (show Box 27 w2 w1.heap.size #[.int .i64 t, .int .i64 pc, .slice a4 rs.length c4] by rw [hw2]; exact Box.new _ _ _)
          clear hw2 o4
          obtain ⟨⟨z0, z1, z2⟩, z3⟩ := hwl.out w2 hk2
          go_wp2_with fail
          refine (HQ.out w2 hk2).mono ?_
          rintro e w3 ⟨rfl, b3⟩
          have hk3 : Kept w0 w3 := Kept.call hk2 b3
          have HX3 := Lib.hid (HX2.out.below b3)
          have HB3 := Lib.hid (HB2.out.below b3)
          clear b3 z0 z1 z2 z3
          obtain ⟨⟨z0, z1, z2⟩, z3⟩ := hwl.out w3 hk3
          go_wp2_with fail
          refine (HOK.out w3 hk3).mono ?_
          rintro e w4 ⟨rfl, b4⟩
          have hk4 : Kept w0 w4 := Kept.call hk3 b4
          have HX4 := Lib.hid (HX3.out.below b4)
          have HB4 := Lib.hid (HB3.out.below b4)
          clear b4 z0 z1 z2 z3
          obtain ⟨⟨x0, x1, x2⟩, x3, x4⟩ := hwr.out w4 hk4
          obtain ⟨⟨l0, l1, l2⟩, lf, ll⟩ := HB4.out.three
          clear lf
          have hgn1 : w1.heap.size ≠ w.heap.size + 1 := by have := hk1.size; have := HZ0.out; omega
          have hgn2 : w.heap.size + 1 ≠ w1.heap.size := by omega
          go_wp2_with fail
          exact bodyPost_ret (v := .tuple #[.agg #[.int .i64 t, .int .i64 pc, .slice a4 rs.length c4], .int .i64 (-1)]) (by simp [results, Try.results24, go_sem, x0, x1, x2]) rfl ⟨a4, c4, rfl, end3 HX4.out (by have := HZ0.out; omega) (by omega) (H0.out w4 hk4).2.2.1 _ _ _⟩
        · have hn1 : n > 1000 := by omega
          clear hn
          go_enter Try.func24, Try.ntmps24
          go_wp2_with fail
          refine wp_scope_straight ?_
          go_upto_region 1 with fail
          rw [← hw0]
          clear hw0
          go_wp2_with fail
          refine (HCP.out w0 hk0).mono ?_
          rintro e w1 ⟨a4, c4, rfl, o4, b4⟩
          have hk1 : Kept w0 w1 := Kept.call hk0 b4
          clear z0 z1 z2 z3 b4
          go_upto_region 2 with fail
          obtain ⟨w2, hw2⟩ : ∃ w2, w2 = w1.alloc (.cells #[.int .i64 t, .int .i64 pc, .slice a4 rs.length c4] 27) := ⟨_, rfl⟩
          rw [← hw2]
          have hk2 : Kept w0 w2 := by rw [hw2]; exact hk1.alloc _
          have HX2 := Lib.hid (show Own w0.heap.size w2 (.slice a4 rs.length c4) rs by rw [hw2]; exact o4.alloc _)
          have HB2 := Lib.hid (show Box 27 w2 w1.heap.size #[.int .i64 t, .int .i64 pc, .slice a4 rs.length c4] by rw [hw2]; exact Box.new _ _ _)
          clear hw2 o4
          obtain ⟨⟨z0, z1, z2⟩, z3⟩ := hwl.out w2 hk2
          go_wp2_with fail
          refine (HQ.out w2 hk2).mono ?_
          rintro e w3 ⟨rfl, b3⟩
          have hk3 : Kept w0 w3 := Kept.call hk2 b3
          have HX3 := Lib.hid (HX2.out.below b3)
          have HB3 := Lib.hid (HB2.out.below b3)
          clear b3 z0 z1 z2 z3
          obtain ⟨⟨z0, z1, z2⟩, z3⟩ := hwl.out w3 hk3
          go_wp2_with fail
          refine (HOK.out w3 hk3).mono ?_
          rintro e w4 ⟨rfl, b4⟩
          have hk4 : Kept w0 w4 := Kept.call hk3 b4
          have HX4 := Lib.hid (HX3.out.below b4)
          have HB4 := Lib.hid (HB3.out.below b4)
          clear b4 z0 z1 z2 z3
          obtain ⟨⟨x0, x1, x2⟩, x3, x4⟩ := hwr.out w4 hk4
          obtain ⟨⟨l0, l1, l2⟩, lf, ll⟩ := HB4.out.three
          clear lf
          have hgn1 : w1.heap.size ≠ w.heap.size + 1 := by have := hk1.size; have := HZ0.out; omega
          have hgn2 : w.heap.size + 1 ≠ w1.heap.size := by omega
          go_wp2_with fail
          exact bodyPost_ret (v := .tuple #[.agg #[.int .i64 t, .int .i64 pc, .slice a4 rs.length c4], .int .i64 (-1)]) (by simp [results, Try.results24, go_sem, x0, x1, x2]) rfl ⟨a4, c4, rfl, end3 HX4.out (by have := HZ0.out; omega) (by omega) (H0.out w4 hk4).2.2.1 _ _ _⟩

end Go.Proofs.Ytmiopbpahkgmbaa
