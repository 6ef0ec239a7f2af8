/- Lanes that run alone: RunAlone and StepsAlone, of both. -/
import Derived.Test.YtmiopbpahkgmbaaRunP
import Derived.Test.YtmiopbpahkgmbaaRunS
import Derived.Test.YtmiopbpahkgmbaaLaneH
namespace Go.Proofs.Ytmiopbpahkgmbaa
open Go.RowKit Go

theorem one_box {w W : World} {c0 : Array Value} {T : TypeId} (hk : Kept (w.alloc (.cells c0 T)) W) : Box T W w.heap.size c0 ∧ Below w.heap.size w W ∧ w.heap.size < W.heap.size := by
  have hs := hk.size
  simp at hs
  exact ⟨(Box.new T w c0).below hk, (below1 w _).trans (Below.mono hk (by simp)), by omega⟩
theorem newR_rng (t : Int) : ∀ x ∈ newR t, i64R x := by
  intro x hx
  unfold newR at hx
  split at hx
  · simp at hx
    subst hx
    unfold i64R
    omega
  · cases hx
theorem newR_len (t : Int) : (newR t).length ≤ 10000000 := by
  unfold newR
  split <;> simp
set_option maxRecDepth 100000 in
set_option maxHeartbeats 4000000 in
theorem pEndOf_any (B : Nat) (w : World) (a : Option Addr) (p : List I4) (cap : Nat) (hl : p.length ≤ 10000000) (h : Nums B w a (flat p)) (hB : B ≤ w.heap.size) (t : Int) :
    Calls Try.prog 65 #[.slice a p.length cap, .int .i64 t] w (RunSaid (alT p t) (alP p t) (alR p t) (alN p t) w) := by
  obtain ⟨w0, hw0⟩ : ∃ w0, w0 = w.alloc (.cells #[.int .i64 0, .int .i64 0, .slice none 0 0] 27) := ⟨_, rfl⟩
  have hTB := @one_box w
  have H0 := Lib.hid (show ∀ W, Kept w0 W → Box 27 W w.heap.size #[.int .i64 0, .int .i64 0, .slice none 0 0] ∧ Below w.heap.size w W ∧ w.heap.size < W.heap.size from fun W hW => hTB (by rw [← hw0]; exact hW))
  have hwr := Lib.hid (fun W (hW : Kept w0 W) => (show (W.cell? ⟨w.heap.size, 0, none⟩ = some (.int .i64 0) ∧ W.cell? ⟨w.heap.size, 1, none⟩ = some (.int .i64 0) ∧ W.cell? ⟨w.heap.size, 2, none⟩ = some (.slice none 0 0)) ∧ (∀ j, W.frozen? ⟨w.heap.size, j, none⟩ = false) ∧ w.heap.size < W.heap.size from (H0.out W hW).1.three))
  clear hTB
  have hk0 : Kept w0 w0 := Below.refl _ _
  have HP := Lib.hid (show ∀ W, Kept w0 W → Nums B W a (flat p) ∧ B ≤ W.heap.size from fun W hW => ⟨h.kept ((H0.out W hW).2.1.mono hB), Nat.le_trans hB (H0.out W hW).2.1.size⟩)
  have HLN := fun W => pLaneNew_any t W
  have HRL := fun W (hW : Kept w0 W) a1 c1 (hN : Nums W.heap.size W a1 (newR t)) => pRunLane_any B W a p cap hl (HP.out W hW).1 (HP.out W hW).2 (newT t) 0 W.heap.size a1 (newR t) c1 (newR_len t) hN (Nat.le_refl _) 1000
  have HLE := fun W (hW : Kept w0 W) a1 c1 (hN : Nums W.heap.size W a1 (rnR p (newT t) 0 (newR t) 1000)) => pLaneEnded_any B W a p cap hl (HP.out W hW).1 (HP.out W hW).2 (newT t) (rnP p (newT t) 0 (newR t) 1000) W.heap.size a1 (rnR p (newT t) 0 (newR t) 1000) c1 (by rw [rn_len]; exact newR_len t) hN (Nat.le_refl _)
  have HRG := Lib.hid (rn_rng (p := p) (t := newT t) (pc := 0) (n := 1000) (newR_rng t))
  have HNR := Lib.hid (newR_rng t)
  have hways := alone_ways p t
  have hend : aloneOk p t = true → endedQ p (newT t) (rnP p (newT t) 0 (newR t) 1000) (rnR p (newT t) 0 (newR t) 1000) = true := fun hA => by
    rcases hways with ⟨_, e1, e2, _, e4, _, _, hok⟩ | ⟨hno, _⟩
    · rw [e1, e2, e4]
      unfold endedQ
      rw [hok, decide_eq_true rfl]
      rfl
    · rw [hno] at hA; cases hA
  generalize rnR p (newT t) 0 (newR t) 1000 = R at *
  generalize rnP p (newT t) 0 (newR t) 1000 = m at *
  generalize rnN p (newT t) 0 (newR t) 1000 = N at *
  generalize newR t = R0 at *
  replace HLN := Lib.hid HLN
  replace HRL := Lib.hid HRL
  clear h
  rcases hways with ⟨hA, e1, e2, e3, e4, h0, h1, hok⟩ | ⟨hA, hE, _⟩
  · rw [(al_yes hA).1, (al_yes hA).2]
    rw [hend hA] at HLE
    replace HLE := Lib.hid HLE
    subst e1
    rw [← e2, ← e3]
    clear e2 e3 hok hend hA h0 h1
    rw [e4] at HLN HRL HLE
    go_enter Try.func65, Try.ntmps65
    go_upto_region 1 with fail
    rw [← hw0]
    clear hw0
    go_wp2_with fail
    refine (HLN.out _).mono ?_
    rintro e w1 ⟨a1, c1, rfl, o1, b1⟩
    have hk1 : Kept w0 w1 := b1
    have HN1 := Lib.hid (Own.nums o1 HNR.out (Nat.le_refl _))
    clear o1 b1
    go_wp2_with fail
    refine (HRL.out w1 hk1 a1 c1 HN1.out).mono ?_
    rintro e w2 ⟨a2, c2, rfl, o2, b2⟩
    have hk2 : Kept w0 w2 := Kept.call hk1 b2
    go_upto_region 2 with fail
    obtain ⟨w3, hw3⟩ : ∃ w3, w3 = w2.alloc (.cells #[.int .i64 (t), .int .i64 (p.length : Int), .slice a2 R.length c2] 27) := ⟨_, rfl⟩
    rw [← hw3]
    have hk3 : Kept w0 w3 := by rw [hw3]; exact hk2.alloc _
    have HX3 := Lib.hid (show Box 27 w3 w2.heap.size #[.int .i64 (t), .int .i64 (p.length : Int), .slice a2 R.length c2] by rw [hw3]; exact Box.new _ _ _)
    have HO3 := Lib.hid (show Own w0.heap.size w3 (.slice a2 R.length c2) R by rw [hw3]; exact Own.alloc (o2.lower hk1.size) _)
    clear hw3 o2 b2
    have HY3 := Lib.hid (Own.nums HO3.out HRG.out (Nat.le_refl _))
    obtain ⟨⟨l0, l1, l2⟩, _, ll⟩ := HX3.out.three
    go_wp2_with fail
    refine (HLE.out w3 hk3 a2 c2 HY3.out).mono ?_
    rintro e w4 ⟨rfl, b4⟩
    have hk4 : Kept w0 w4 := Kept.call hk3 b4
    have HO4 := Lib.hid (HO3.out.below b4)
    have HX4 := Lib.hid (HX3.out.below b4)
    clear b4 l0 l1 l2 ll
    obtain ⟨⟨l0, l1, l2⟩, _, ll⟩ := HX4.out.three
    obtain ⟨⟨x0, x1, x2⟩, x3, x4⟩ := hwr.out w4 hk4
    have hz := hk2.size
    have hsz := (H0.out w0 hk0).2.2
    have hgn1 : w2.heap.size ≠ w.heap.size := by omega
    have hgn2 : w.heap.size ≠ w2.heap.size := by omega
    go_wp2_with fail
    exact bodyPost_ret (v := .tuple #[.agg #[.int .i64 t, .int .i64 (p.length : Int), .slice a2 R.length c2], .int .i64 N]) (by simp [results, Try.results65, go_sem, x0, x1, x2]) rfl ⟨a2, c2, rfl, end3 HO4.out hsz (by omega) (H0.out w4 hk4).2.1 _ _ _⟩
  · obtain ⟨e1, e2, e3, e4⟩ := al_no hA
    rw [e1, e2, e3, e4]
    rw [hE] at HLE
    replace HLE := Lib.hid HLE
    clear e1 e2 e3 e4 hend hA hE
    go_enter Try.func65, Try.ntmps65
    go_upto_region 1 with fail
    rw [← hw0]
    clear hw0
    go_wp2_with fail
    refine (HLN.out _).mono ?_
    rintro e w1 ⟨a1, c1, rfl, o1, b1⟩
    have hk1 : Kept w0 w1 := b1
    have HN1 := Lib.hid (Own.nums o1 HNR.out (Nat.le_refl _))
    clear o1 b1
    go_wp2_with fail
    refine (HRL.out w1 hk1 a1 c1 HN1.out).mono ?_
    rintro e w2 ⟨a2, c2, rfl, o2, b2⟩
    have hk2 : Kept w0 w2 := Kept.call hk1 b2
    go_upto_region 2 with fail
    obtain ⟨w3, hw3⟩ : ∃ w3, w3 = w2.alloc (.cells #[.int .i64 (newT t), .int .i64 m, .slice a2 R.length c2] 27) := ⟨_, rfl⟩
    rw [← hw3]
    have hk3 : Kept w0 w3 := by rw [hw3]; exact hk2.alloc _
    have HX3 := Lib.hid (show Box 27 w3 w2.heap.size #[.int .i64 (newT t), .int .i64 m, .slice a2 R.length c2] by rw [hw3]; exact Box.new _ _ _)
    have HO3 := Lib.hid (show Own w0.heap.size w3 (.slice a2 R.length c2) R by rw [hw3]; exact Own.alloc (o2.lower hk1.size) _)
    clear hw3 o2 b2
    have HY3 := Lib.hid (Own.nums HO3.out HRG.out (Nat.le_refl _))
    obtain ⟨⟨l0, l1, l2⟩, _, ll⟩ := HX3.out.three
    go_wp2_with fail
    refine (HLE.out w3 hk3 a2 c2 HY3.out).mono ?_
    rintro e w4 ⟨rfl, b4⟩
    have hk4 : Kept w0 w4 := Kept.call hk3 b4
    have HO4 := Lib.hid (HO3.out.below b4)
    have HX4 := Lib.hid (HX3.out.below b4)
    clear b4 l0 l1 l2 ll
    obtain ⟨⟨l0, l1, l2⟩, _, ll⟩ := HX4.out.three
    obtain ⟨⟨x0, x1, x2⟩, x3, x4⟩ := hwr.out w4 hk4
    have hz := hk2.size
    have hsz := (H0.out w0 hk0).2.2
    have hgn1 : w2.heap.size ≠ w.heap.size := by omega
    have hgn2 : w.heap.size ≠ w2.heap.size := by omega
    go_wp2_with fail
    exact bodyPost_ret (v := .tuple #[.agg #[.int .i64 0, .int .i64 0, .slice none 0 0], .int .i64 (-1)]) (by simp [results, Try.results65, go_sem, x0, x1, x2]) rfl ⟨none, 0, rfl, end3 (Own.nil w0.heap.size _) hsz (by omega) (H0.out w4 hk4).2.1 _ _ _⟩

set_option maxRecDepth 100000 in
set_option maxHeartbeats 4000000 in
theorem pRunAlone_any (B : Nat) (w : World) (a : Option Addr) (p : List I4) (cap : Nat) (hl : p.length ≤ 10000000) (h : Nums B w a (flat p)) (hB : B ≤ w.heap.size) (t : Int) :
    Calls Try.prog 28 #[.slice a p.length cap, .int .i64 t] w (StepSaid (alT p t) (alP p t) (alR p t) (aloneOk p t) w) := by
  obtain ⟨w0, hw0⟩ : ∃ w0, w0 = w.alloc (.cells #[.int .i64 0, .int .i64 0, .slice none 0 0] 27) := ⟨_, rfl⟩
  have hTB := @one_box w
  have H0 := Lib.hid (show ∀ W, Kept w0 W → Box 27 W w.heap.size #[.int .i64 0, .int .i64 0, .slice none 0 0] ∧ Below w.heap.size w W ∧ w.heap.size < W.heap.size from fun W hW => hTB (by rw [← hw0]; exact hW))
  have hwr := Lib.hid (fun W (hW : Kept w0 W) => (show (W.cell? ⟨w.heap.size, 0, none⟩ = some (.int .i64 0) ∧ W.cell? ⟨w.heap.size, 1, none⟩ = some (.int .i64 0) ∧ W.cell? ⟨w.heap.size, 2, none⟩ = some (.slice none 0 0)) ∧ (∀ j, W.frozen? ⟨w.heap.size, j, none⟩ = false) ∧ w.heap.size < W.heap.size from (H0.out W hW).1.three))
  clear hTB
  have hk0 : Kept w0 w0 := Below.refl _ _
  have HEO := Lib.hid (fun W (hW : Kept w0 W) => pEndOf_any B W a p cap hl (h.kept ((H0.out W hW).2.1.mono hB)) (Nat.le_trans hB (H0.out W hW).2.1.size) t)
  have hways := alone_ways p t
  clear h
  have hd : (!decide (alN p t = -1)) = aloneOk p t := by
    rcases hways with ⟨hA, _, _, _, _, h0, _⟩ | ⟨hA, _⟩
    · rw [hA]
      simp
      omega
    · rw [hA, (al_no hA).2.2.2]
      rfl
  generalize alN p t = N at *
  generalize alT p t = T at *
  generalize alP p t = m at *
  generalize alR p t = R at *
  clear hways
  have hd2 : decide (N = -1) = !aloneOk p t := by rw [← hd, Bool.not_not]
  generalize aloneOk p t = v at *
  clear hd
  have hd3 : (N == -1) = !v := by rw [← hd2, Bool.eq_iff_iff]; simp
  clear hd2
  have hd4 : (N != -1) = v := by show (!(N == -1)) = v; rw [hd3, Bool.not_not]
  clear hd3
  go_enter Try.func28, Try.ntmps28
  go_upto_region 1 with fail
  rw [← hw0]
  clear hw0
  go_wp2_with fail
  refine (HEO.out w0 hk0).mono ?_
  rintro e w2 ⟨a2, c2, rfl, o2, b2⟩
  have hk2 : Kept w0 w2 := Kept.call hk0 b2
  have hk1 := hk0
  go_upto_region 2 with fail
  obtain ⟨w3, hw3⟩ : ∃ w3, w3 = w2.alloc (.cells #[.int .i64 T, .int .i64 m, .slice a2 R.length c2] 27) := ⟨_, rfl⟩
  rw [← hw3]
  have hk3 : Kept w0 w3 := by rw [hw3]; exact hk2.alloc _
  have HX3 := Lib.hid (show Box 27 w3 w2.heap.size #[.int .i64 T, .int .i64 m, .slice a2 R.length c2] by rw [hw3]; exact Box.new _ _ _)
  have HO3 := Lib.hid (show Own w0.heap.size w3 (.slice a2 R.length c2) R by rw [hw3]; exact Own.alloc (o2.lower hk1.size) _)
  clear hw3 o2 b2
  obtain ⟨⟨l0, l1, l2⟩, _, ll⟩ := HX3.out.three
  obtain ⟨⟨x0, x1, x2⟩, x3, x4⟩ := hwr.out w3 hk3
  have hz := hk2.size
  have hsz := (H0.out w0 hk0).2.2
  have hgn1 : w2.heap.size ≠ w.heap.size := by omega
  have hgn2 : w.heap.size ≠ w2.heap.size := by omega
  go_wp2_with fail
  exact bodyPost_ret (v := .tuple #[.agg #[.int .i64 T, .int .i64 m, .slice a2 R.length c2], .bool v]) (by simp [results, Try.results28, go_sem, x0, x1, x2]) rfl ⟨a2, c2, rfl, end3 HO3.out hsz (by omega) (H0.out w3 hk3).2.1 _ _ _⟩

set_option maxRecDepth 100000 in
set_option maxHeartbeats 4000000 in
theorem pStepsAlone_any (B : Nat) (w : World) (a : Option Addr) (p : List I4) (cap : Nat) (hl : p.length ≤ 10000000) (h : Nums B w a (flat p)) (hB : B ≤ w.heap.size) (t : Int) :
    Calls Try.prog 27 #[.slice a p.length cap, .int .i64 t] w (Said (.int .i64 (alN p t)) w) := by
  have HEO := Lib.hid (pEndOf_any B w a p cap hl h hB t)
  clear h
  go_enter Try.func27, Try.ntmps27
  go_wp2_with fail
  refine HEO.out.mono ?_
  rintro e w2 ⟨a2, c2, rfl, o2, b2⟩
  have HB2 := Lib.hid b2
  clear o2 b2
  go_wp2_with fail
  go_ret
  exact ⟨rfl, HB2.out.alloc HB2.out.size _⟩

set_option maxRecDepth 100000 in
set_option maxHeartbeats 4000000 in
theorem sRunAlone_any (B : Nat) (w : World) (a : Option Addr) (p : List I4) (cap : Nat) (hl : p.length ≤ 10000000) (h : Nums B w a (flat p)) (hB : B ≤ w.heap.size) (t : Int) :
    Calls Try.prog 41 #[.slice a p.length cap, .int .i64 t] w (StepSaid (alT p t) (alP p t) (alR p t) (aloneOk p t) w) := by
  obtain ⟨w0, hw0⟩ : ∃ w0, w0 = w.alloc (.cells #[.int .i64 0, .int .i64 0, .slice none 0 0] 27) := ⟨_, rfl⟩
  have hTB := @one_box w
  have H0 := Lib.hid (show ∀ W, Kept w0 W → Box 27 W w.heap.size #[.int .i64 0, .int .i64 0, .slice none 0 0] ∧ Below w.heap.size w W ∧ w.heap.size < W.heap.size from fun W hW => hTB (by rw [← hw0]; exact hW))
  have hwr := Lib.hid (fun W (hW : Kept w0 W) => (show (W.cell? ⟨w.heap.size, 0, none⟩ = some (.int .i64 0) ∧ W.cell? ⟨w.heap.size, 1, none⟩ = some (.int .i64 0) ∧ W.cell? ⟨w.heap.size, 2, none⟩ = some (.slice none 0 0)) ∧ (∀ j, W.frozen? ⟨w.heap.size, j, none⟩ = false) ∧ w.heap.size < W.heap.size from (H0.out W hW).1.three))
  clear hTB
  have hk0 : Kept w0 w0 := Below.refl _ _
  have HP := Lib.hid (show ∀ W, Kept w0 W → Nums B W a (flat p) ∧ B ≤ W.heap.size from fun W hW => ⟨h.kept ((H0.out W hW).2.1.mono hB), Nat.le_trans hB (H0.out W hW).2.1.size⟩)
  have HLN := fun W => sLaneNew_any t W
  have HRL := fun W (hW : Kept w0 W) a1 c1 (hN : Nums W.heap.size W a1 (newR t)) => sRunLane_any B W a p cap hl (HP.out W hW).1 (HP.out W hW).2 (newT t) 0 W.heap.size a1 (newR t) c1 (newR_len t) hN (Nat.le_refl _) 1000
  have HNR := Lib.hid (newR_rng t)
  have hways := alone_ways p t
  generalize rnR p (newT t) 0 (newR t) 1000 = R at *
  generalize rnP p (newT t) 0 (newR t) 1000 = m at *
  generalize rnN p (newT t) 0 (newR t) 1000 = N at *
  generalize newR t = R0 at *
  replace HLN := Lib.hid HLN
  replace HRL := Lib.hid HRL
  clear h
  rcases hways with ⟨hA, e1, e2, e3, e4, h0, h1, hok⟩ | ⟨hA, hE, hbad⟩
  · rw [(al_yes hA).1, (al_yes hA).2, hA]
    subst e1
    rw [← e2]
    rw [← e3] at h0
    clear e2 e3 hok hA h1
    rw [e4] at HLN HRL
    go_enter Try.func41, Try.ntmps41
    go_upto_region 1 with fail
    rw [← hw0]
    clear hw0
    go_wp2_with fail
    refine (HLN.out _).mono ?_
    rintro e w1 ⟨a1, c1, rfl, o1, b1⟩
    have hk1 : Kept w0 w1 := b1
    have HN1 := Lib.hid (Own.nums o1 HNR.out (Nat.le_refl _))
    clear o1 b1
    go_wp2_with fail
    refine (HRL.out w1 hk1 a1 c1 HN1.out).mono ?_
    rintro e w2 ⟨a2, c2, rfl, o2, b2⟩
    have hk2 : Kept w0 w2 := Kept.call hk1 b2
    go_upto_region 2 with fail
    obtain ⟨w3, hw3⟩ : ∃ w3, w3 = w2.alloc (.cells #[.int .i64 (t), .int .i64 (p.length : Int), .slice a2 R.length c2] 27) := ⟨_, rfl⟩
    rw [← hw3]
    have hk3 : Kept w0 w3 := by rw [hw3]; exact hk2.alloc _
    have HX3 := Lib.hid (show Box 27 w3 w2.heap.size #[.int .i64 (t), .int .i64 (p.length : Int), .slice a2 R.length c2] by rw [hw3]; exact Box.new _ _ _)
    have HO3 := Lib.hid (show Own w0.heap.size w3 (.slice a2 R.length c2) R by rw [hw3]; exact Own.alloc (o2.lower hk1.size) _)
    clear hw3 o2 b2
    obtain ⟨⟨l0, l1, l2⟩, _, ll⟩ := HX3.out.three
    have hz := hk2.size
    obtain ⟨⟨x0, x1, x2⟩, x3, x4⟩ := hwr.out w3 hk3
    have hsz := (H0.out w0 hk0).2.2
    have hgn1 : w2.heap.size ≠ w.heap.size := by omega
    have hgn2 : w.heap.size ≠ w2.heap.size := by omega
    go_wp2_with fail
    exact bodyPost_ret (v := .tuple #[.agg #[.int .i64 t, .int .i64 (p.length : Int), .slice a2 R.length c2], .bool true]) (by simp [results, Try.results41, go_sem, x0, x1, x2]) rfl ⟨a2, c2, rfl, end3 HO3.out hsz (by omega) (H0.out w3 hk3).2.1 _ _ _⟩
  · obtain ⟨e1, e2, e3, e4⟩ := al_no hA
    rw [e1, e2, e3, hA]
    clear e1 e2 e3 e4 hA hE
    rcases hbad with rfl | ⟨hb0, _, hb1⟩
    · go_enter Try.func41, Try.ntmps41
      go_upto_region 1 with fail
      rw [← hw0]
      clear hw0
      go_wp2_with fail
      refine (HLN.out _).mono ?_
      rintro e w1 ⟨a1, c1, rfl, o1, b1⟩
      have hk1 : Kept w0 w1 := b1
      have HN1 := Lib.hid (Own.nums o1 HNR.out (Nat.le_refl _))
      clear o1 b1
      go_wp2_with fail
      refine (HRL.out w1 hk1 a1 c1 HN1.out).mono ?_
      rintro e w2 ⟨a2, c2, rfl, o2, b2⟩
      have hk2 : Kept w0 w2 := Kept.call hk1 b2
      go_upto_region 2 with fail
      obtain ⟨w3, hw3⟩ : ∃ w3, w3 = w2.alloc (.cells #[.int .i64 (newT t), .int .i64 m, .slice a2 R.length c2] 27) := ⟨_, rfl⟩
      rw [← hw3]
      have hk3 : Kept w0 w3 := by rw [hw3]; exact hk2.alloc _
      have HX3 := Lib.hid (show Box 27 w3 w2.heap.size #[.int .i64 (newT t), .int .i64 m, .slice a2 R.length c2] by rw [hw3]; exact Box.new _ _ _)
      have HO3 := Lib.hid (show Own w0.heap.size w3 (.slice a2 R.length c2) R by rw [hw3]; exact Own.alloc (o2.lower hk1.size) _)
      clear hw3 o2 b2
      obtain ⟨⟨l0, l1, l2⟩, _, ll⟩ := HX3.out.three
      have hz := hk2.size
      obtain ⟨⟨x0, x1, x2⟩, x3, x4⟩ := hwr.out w3 hk3
      have hsz := (H0.out w0 hk0).2.2
      have hgn1 : w2.heap.size ≠ w.heap.size := by omega
      have hgn2 : w.heap.size ≠ w2.heap.size := by omega
      go_wp2_with fail
      exact bodyPost_ret (v := .tuple #[.agg #[.int .i64 0, .int .i64 0, .slice none 0 0], .bool false]) (by simp [results, Try.results41, go_sem, x0, x1, x2]) rfl ⟨none, 0, rfl, end3 (Own.nil w0.heap.size _) hsz (by omega) (H0.out w3 hk3).2.1 _ _ _⟩
    · go_enter Try.func41, Try.ntmps41
      go_upto_region 1 with fail
      rw [← hw0]
      clear hw0
      go_wp2_with fail
      refine (HLN.out _).mono ?_
      rintro e w1 ⟨a1, c1, rfl, o1, b1⟩
      have hk1 : Kept w0 w1 := b1
      have HN1 := Lib.hid (Own.nums o1 HNR.out (Nat.le_refl _))
      clear o1 b1
      go_wp2_with fail
      refine (HRL.out w1 hk1 a1 c1 HN1.out).mono ?_
      rintro e w2 ⟨a2, c2, rfl, o2, b2⟩
      have hk2 : Kept w0 w2 := Kept.call hk1 b2
      go_upto_region 2 with fail
      obtain ⟨w3, hw3⟩ : ∃ w3, w3 = w2.alloc (.cells #[.int .i64 (newT t), .int .i64 m, .slice a2 R.length c2] 27) := ⟨_, rfl⟩
      rw [← hw3]
      have hk3 : Kept w0 w3 := by rw [hw3]; exact hk2.alloc _
      have HX3 := Lib.hid (show Box 27 w3 w2.heap.size #[.int .i64 (newT t), .int .i64 m, .slice a2 R.length c2] by rw [hw3]; exact Box.new _ _ _)
      have HO3 := Lib.hid (show Own w0.heap.size w3 (.slice a2 R.length c2) R by rw [hw3]; exact Own.alloc (o2.lower hk1.size) _)
      clear hw3 o2 b2
      obtain ⟨⟨l0, l1, l2⟩, _, ll⟩ := HX3.out.three
      have hz := hk2.size
      obtain ⟨⟨x0, x1, x2⟩, x3, x4⟩ := hwr.out w3 hk3
      have hsz := (H0.out w0 hk0).2.2
      have hgn1 : w2.heap.size ≠ w.heap.size := by omega
      have hgn2 : w.heap.size ≠ w2.heap.size := by omega
      go_wp2_with fail
      exact bodyPost_ret (v := .tuple #[.agg #[.int .i64 0, .int .i64 0, .slice none 0 0], .bool false]) (by simp [results, Try.results41, go_sem, x0, x1, x2]) rfl ⟨none, 0, rfl, end3 (Own.nil w0.heap.size _) hsz (by omega) (H0.out w3 hk3).2.1 _ _ _⟩

set_option maxRecDepth 100000 in
set_option maxHeartbeats 4000000 in
theorem sStepsAlone_any (B : Nat) (w : World) (a : Option Addr) (p : List I4) (cap : Nat) (hl : p.length ≤ 10000000) (h : Nums B w a (flat p)) (hB : B ≤ w.heap.size) (t : Int) :
    Calls Try.prog 42 #[.slice a p.length cap, .int .i64 t] w (Said (.int .i64 (alN p t)) w) := by
  obtain ⟨w0, hw0⟩ : ∃ w0, w0 = w := ⟨_, rfl⟩
  have H0 := Lib.hid (show ∀ W, Kept w0 W → True ∧ Below w.heap.size w W ∧ w.heap.size ≤ W.heap.size from fun W hW => ⟨trivial, by rw [← hw0]; exact hW, by rw [← hw0]; exact hW.size⟩)
  have hk0 : Kept w0 w0 := Below.refl _ _
  have HP := Lib.hid (show ∀ W, Kept w0 W → Nums B W a (flat p) ∧ B ≤ W.heap.size from fun W hW => ⟨h.kept ((H0.out W hW).2.1.mono hB), Nat.le_trans hB (H0.out W hW).2.1.size⟩)
  have HLN := fun W => sLaneNew_any t W
  have HRL := fun W (hW : Kept w0 W) a1 c1 (hN : Nums W.heap.size W a1 (newR t)) => sRunLane_any B W a p cap hl (HP.out W hW).1 (HP.out W hW).2 (newT t) 0 W.heap.size a1 (newR t) c1 (newR_len t) hN (Nat.le_refl _) 1000
  have HNR := Lib.hid (newR_rng t)
  have hways := alone_ways p t
  generalize rnR p (newT t) 0 (newR t) 1000 = R at *
  generalize rnP p (newT t) 0 (newR t) 1000 = m at *
  generalize rnN p (newT t) 0 (newR t) 1000 = N at *
  generalize newR t = R0 at *
  replace HLN := Lib.hid HLN
  replace HRL := Lib.hid HRL
  clear h
  rcases hways with ⟨hA, e1, e2, e3, e4, h0, h1, hok⟩ | ⟨hA, hE, hbad⟩
  · subst e1
    rw [← e3]
    rw [← e3] at h0
    clear e2 e3 hok hA h1
    rw [e4] at HLN HRL
    go_enter Try.func42, Try.ntmps42
    subst hw0
    go_wp2_with fail
    refine (HLN.out _).mono ?_
    rintro e w1 ⟨a1, c1, rfl, o1, b1⟩
    have hk1 : Kept w0 w1 := b1
    have HN1 := Lib.hid (Own.nums o1 HNR.out (Nat.le_refl _))
    clear o1 b1
    go_wp2_with fail
    refine (HRL.out w1 hk1 a1 c1 HN1.out).mono ?_
    rintro e w2 ⟨a2, c2, rfl, o2, b2⟩
    have hk2 : Kept w0 w2 := Kept.call hk1 b2
    go_upto_region 2 with fail
    obtain ⟨w3, hw3⟩ : ∃ w3, w3 = w2.alloc (.cells #[.int .i64 (t), .int .i64 (p.length : Int), .slice a2 R.length c2] 27) := ⟨_, rfl⟩
    rw [← hw3]
    have hk3 : Kept w0 w3 := by rw [hw3]; exact hk2.alloc _
    have HX3 := Lib.hid (show Box 27 w3 w2.heap.size #[.int .i64 (t), .int .i64 (p.length : Int), .slice a2 R.length c2] by rw [hw3]; exact Box.new _ _ _)
    have HO3 := Lib.hid (show Own w0.heap.size w3 (.slice a2 R.length c2) R by rw [hw3]; exact Own.alloc (o2.lower hk1.size) _)
    clear hw3 o2 b2
    obtain ⟨⟨l0, l1, l2⟩, _, ll⟩ := HX3.out.three
    have hz := hk2.size
    go_wp2_with fail
    go_ret
    exact ⟨rfl, (H0.out w3 hk3).2.1⟩
  · obtain ⟨e1, e2, e3, e4⟩ := al_no hA
    rw [e4]
    clear e1 e2 e3 e4 hA hE
    rcases hbad with rfl | ⟨hb0, _, hb1⟩
    · go_enter Try.func42, Try.ntmps42
      subst hw0
      go_wp2_with fail
      refine (HLN.out _).mono ?_
      rintro e w1 ⟨a1, c1, rfl, o1, b1⟩
      have hk1 : Kept w0 w1 := b1
      have HN1 := Lib.hid (Own.nums o1 HNR.out (Nat.le_refl _))
      clear o1 b1
      go_wp2_with fail
      refine (HRL.out w1 hk1 a1 c1 HN1.out).mono ?_
      rintro e w2 ⟨a2, c2, rfl, o2, b2⟩
      have hk2 : Kept w0 w2 := Kept.call hk1 b2
      go_upto_region 2 with fail
      obtain ⟨w3, hw3⟩ : ∃ w3, w3 = w2.alloc (.cells #[.int .i64 (newT t), .int .i64 m, .slice a2 R.length c2] 27) := ⟨_, rfl⟩
      rw [← hw3]
      have hk3 : Kept w0 w3 := by rw [hw3]; exact hk2.alloc _
      have HX3 := Lib.hid (show Box 27 w3 w2.heap.size #[.int .i64 (newT t), .int .i64 m, .slice a2 R.length c2] by rw [hw3]; exact Box.new _ _ _)
      have HO3 := Lib.hid (show Own w0.heap.size w3 (.slice a2 R.length c2) R by rw [hw3]; exact Own.alloc (o2.lower hk1.size) _)
      clear hw3 o2 b2
      obtain ⟨⟨l0, l1, l2⟩, _, ll⟩ := HX3.out.three
      have hz := hk2.size
      go_wp2_with fail
      go_ret
      exact ⟨rfl, (H0.out w3 hk3).2.1⟩
    · go_enter Try.func42, Try.ntmps42
      subst hw0
      go_wp2_with fail
      refine (HLN.out _).mono ?_
      rintro e w1 ⟨a1, c1, rfl, o1, b1⟩
      have hk1 : Kept w0 w1 := b1
      have HN1 := Lib.hid (Own.nums o1 HNR.out (Nat.le_refl _))
      clear o1 b1
      go_wp2_with fail
      refine (HRL.out w1 hk1 a1 c1 HN1.out).mono ?_
      rintro e w2 ⟨a2, c2, rfl, o2, b2⟩
      have hk2 : Kept w0 w2 := Kept.call hk1 b2
      go_upto_region 2 with fail
      obtain ⟨w3, hw3⟩ : ∃ w3, w3 = w2.alloc (.cells #[.int .i64 (newT t), .int .i64 m, .slice a2 R.length c2] 27) := ⟨_, rfl⟩
      rw [← hw3]
      have hk3 : Kept w0 w3 := by rw [hw3]; exact hk2.alloc _
      have HX3 := Lib.hid (show Box 27 w3 w2.heap.size #[.int .i64 (newT t), .int .i64 m, .slice a2 R.length c2] by rw [hw3]; exact Box.new _ _ _)
      have HO3 := Lib.hid (show Own w0.heap.size w3 (.slice a2 R.length c2) R by rw [hw3]; exact Own.alloc (o2.lower hk1.size) _)
      clear hw3 o2 b2
      obtain ⟨⟨l0, l1, l2⟩, _, ll⟩ := HX3.out.three
      have hz := hk2.size
      go_wp2_with fail
      go_ret
      exact ⟨rfl, (H0.out w3 hk3).2.1⟩

end Go.Proofs.Ytmiopbpahkgmbaa
