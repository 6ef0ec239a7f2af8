/- Lanes: the model's step. -/
import Derived.Test.YtmiopbpahkgmbaaLaneE
namespace Go.Proofs.Ytmiopbpahkgmbaa
open Go.RowKit Go

theorem step_end {w w3 : World} {W : Nat} {v : Value} {xs : List Int} (o : Own W w3 v xs) (hW : w.heap.size + 2 ≤ W) (hb : Below w.heap.size w w3) (x y z : Value) :
    Own w.heap.size (((w3.setCell ⟨w.heap.size + 1, 0, none⟩ x).setCell ⟨w.heap.size + 1, 1, none⟩ y).setCell ⟨w.heap.size + 1, 2, none⟩ z) v xs ∧ Below w.heap.size w (((w3.setCell ⟨w.heap.size + 1, 0, none⟩ x).setCell ⟨w.heap.size + 1, 1, none⟩ y).setCell ⟨w.heap.size + 1, 2, none⟩ z) :=
  ⟨set3_own (o.lower hW) _ _ _ (by omega), set3_below hb _ _ _⟩
theorem step_endD {w w3 : World} {W : Nat} {v : Value} {xs : List Int} (o : Own W w3 v xs) (hW : w.heap.size + 2 ≤ W) (hb : Below w.heap.size w w3) (x y z : Value) :
    Own w.heap.size (((w3.setCell ⟨w.heap.size + 1, 0, none⟩ x).setCell ⟨w.heap.size + 1, 1, none⟩ y).setCell ⟨w.heap.size + 1, 2, none⟩ z).drew v xs ∧ Below w.heap.size w (((w3.setCell ⟨w.heap.size + 1, 0, none⟩ x).setCell ⟨w.heap.size + 1, 1, none⟩ y).setCell ⟨w.heap.size + 1, 2, none⟩ z).drew := by
  obtain ⟨h1, h2⟩ := step_end o hW hb x y z
  exact ⟨h1.below (below_drewN _ _ 1), h2.trans (below_drewN _ _ 1)⟩

/-- The two blocks of a function that takes a lane and returns one. -/
theorem two_boxes {w W : World} {c0 c1 : Array Value} {T : TypeId} (hk : Kept ((w.alloc (.cells c0 T)).alloc (.cells c1 T)) W) : Box T W w.heap.size c0 ∧ Box T W (w.heap.size + 1) c1 ∧ Below w.heap.size w W ∧ w.heap.size + 2 ≤ W.heap.size := by
  have h1 : Box T ((w.alloc (.cells c0 T)).alloc (.cells c1 T)) (w.heap.size + 1) c1 := by
    have := Box.new T (w.alloc (.cells c0 T)) c1
    simpa using this
  have hs := hk.size
  simp at hs
  exact ⟨((Box.new T w c0).alloc _).below hk, h1.below hk, (below2 w _ _).trans (Below.mono hk (by simp; omega)), by omega⟩

set_option maxRecDepth 100000 in
set_option maxHeartbeats 4000000 in
theorem sStep_any (B : Nat) (w : World) (a : Option Addr) (p : List I4) (cap k : Nat) (hp : progOk p = true) (hk : k < p.length) (h : Nums B w a (flat p)) (hB : B ≤ w.heap.size) (t : Int) (B2 : Nat) (ra : Option Addr) (rs : List Int) (rc : Nat) (hl : rs.length = 4) (h2 : Nums B2 w ra rs) (hB2 : B2 ≤ w.heap.size) :
    Calls Try.prog 73 #[.slice a p.length cap, .agg #[.int .i64 t, .int .i64 k, .slice ra 4 rc]] w (LaneSaid t (nextR p k p[k] rs) (applyR p[k] t rs) w) := by
  have h32 := progOk_len hp
  have hb2 := below2 w (.cells #[.int .i64 t, .int .i64 k, .slice ra 4 rc] 27) (.cells #[.int .i64 0, .int .i64 0, .slice none 0 0] 27)
  obtain ⟨w0, hw0⟩ : ∃ w0, w0 = (w.alloc (.cells #[.int .i64 t, .int .i64 k, .slice ra 4 rc] 27)).alloc (.cells #[.int .i64 0, .int .i64 0, .slice none 0 0] 27) := ⟨_, rfl⟩
  have hTB := @two_boxes w
  have H0 := Lib.hid (show ∀ W, Kept w0 W → Box 27 W w.heap.size #[.int .i64 t, .int .i64 k, .slice ra 4 rc] ∧ Box 27 W (w.heap.size + 1) #[.int .i64 0, .int .i64 0, .slice none 0 0] ∧ Below w.heap.size w W ∧ w.heap.size + 2 ≤ W.heap.size from fun W hW => hTB (by rw [← hw0]; exact hW))
  have HN := Lib.hid (fun W (hW : Kept w0 W) => sNextPc_any B W a p cap k hp hk (h.kept ((H0.out W hW).2.2.1.mono hB)) B2 ra rs rc hl (h2.kept ((H0.out W hW).2.2.1.mono hB2)))
  have HA := fun W (hW : Kept w0 W) => sApply_any B2 W p[k] p.length t rs ra rc (progOk_at hp hk) hl (h2.kept ((H0.out W hW).2.2.1.mono hB2)) (Nat.le_trans hB2 (by have := (H0.out W hW).2.2.2; omega))
  have hlen : (applyR p[k] t rs).length = 4 := by rw [applyR_len]; exact hl
  replace HA := Lib.hid HA
  obtain ⟨g, off, rfl, hg, c0, c1, c2, c3⟩ := h.at4 k hk
  generalize applyR p[k] t rs = ys at *
  generalize nextR p k p[k] rs = m at *
  have k0 : (0 : Int) ≤ (k : Int) := Int.natCast_nonneg _
  have k1 : (k : Int) < (p.length : Int) := by omega
  have hgw : g < w.heap.size := by omega
  clear h h2 hp hTB
  generalize p[k] = x at *
  obtain ⟨xo, xa, xb, xc⟩ := x
  simp only at c0 c1 c2 c3 HA
  have hk0 : Kept w0 w0 := Below.refl _ _
  obtain ⟨hL, hR, hbw, hsz⟩ := H0.out w0 hk0
  have l0 := hL.cell 0; have l1 := hL.cell 1; have l2 := hL.cell 2
  have r0 := hR.cell 0; have r1 := hR.cell 1; have r2 := hR.cell 2
  have hf := hR.frozen
  simp at l0 l1 l2 r0 r1 r2
  have hLlt := hL.lt
  have hRlt := hR.lt
  have d0 : w0.cell? ⟨g, off + k * 4, none⟩ = some (.int .i64 xo) := by rw [hbw.cell (p := ⟨g, off + k * 4, none⟩) hgw]; exact c0
  have d1 : w0.cell? ⟨g, off + k * 4 + 1, none⟩ = some (.int .i64 xa) := by rw [hbw.cell (p := ⟨g, off + k * 4 + 1, none⟩) hgw]; exact c1
  have d2 : w0.cell? ⟨g, off + k * 4 + 2, none⟩ = some (.int .i64 xb) := by rw [hbw.cell (p := ⟨g, off + k * 4 + 2, none⟩) hgw]; exact c2
  have d3 : w0.cell? ⟨g, off + k * 4 + 3, none⟩ = some (.int .i64 xc) := by rw [hbw.cell (p := ⟨g, off + k * 4 + 3, none⟩) hgw]; exact c3
  clear hL hR c0 c1 c2 c3
  have hgw0 : g < w0.heap.size := by omega
  have hgn1 : g ≠ w.heap.size + 1 := by omega
  have hgn2 : w.heap.size + 1 ≠ g := by omega
  clear hbw
  go_enter Try.func73, Try.ntmps73
  go_upto_region 1 with fail
  rw [← hw0]
  have HW0 := Lib.hid hw0
  clear hw0 hb2
  go_region_held3 (fun w' => (w'.cell? ⟨w.heap.size, 0, none⟩ = some (.int .i64 t) ∧ w'.cell? ⟨w.heap.size, 1, none⟩ = some (.int .i64 (k : Int)) ∧ w'.cell? ⟨w.heap.size, 2, none⟩ = some (.slice ra 4 rc)) ∧ (w'.cell? ⟨g, off + k * 4, none⟩ = some (.int .i64 xo) ∧ w'.cell? ⟨g, off + k * 4 + 1, none⟩ = some (.int .i64 xa) ∧ w'.cell? ⟨g, off + k * 4 + 2, none⟩ = some (.int .i64 xb) ∧ w'.cell? ⟨g, off + k * 4 + 3, none⟩ = some (.int .i64 xc))) (first | go_keep | ((repeat' apply And.intro) <;> (first | (rw [hb1.cell (by simp; omega)]; simp [*]) | go_keep))) ((first
    | (go_at_call 95; refine (HN.out _ (by first | exact hk0 | exact Kept.drew hk0)).mono ?_; rintro e w4 ⟨rfl, rfl⟩)
    | (go_at_call 96; refine (HA.out _ (by first | exact hk0 | exact Kept.drew hk0)).mono ?_; rintro e w3 ⟨v, rfl, o3, hb1⟩; obtain ⟨a3, cc3, rfl⟩ := o3.form; have O3 := Lib.hid o3; clear o3; replace hk0 : Kept w0 w3 := (by first | exact Kept.call hk0 hb1 | exact Kept.call (Kept.drew hk0) hb1); have hz0 := hk0.size; obtain ⟨_, hR3, hbb, _⟩ := H0.out w3 hk0; have HBB := Lib.hid hbb; clear hbb; have r0 := hR3.cell 0; have r1 := hR3.cell 1; have r2 := hR3.cell 2; have hf := hR3.frozen; simp at r0 r1 r2; clear hR3)))
  go_wp2_with fail
  first
    | exact bodyPost_ret (v := .agg #[.int .i64 t, .int .i64 m, .slice a3 4 cc3]) (by simp [results, Try.results73, go_sem, r0, r1, r2]) rfl ⟨a3, cc3, by rw [hlen], step_end O3.out hsz HBB.out _ _ _⟩
    | exact bodyPost_ret (v := .agg #[.int .i64 t, .int .i64 m, .slice a3 4 cc3]) (by simp [results, Try.results73, go_sem, r0, r1, r2]) rfl ⟨a3, cc3, by rw [hlen], step_endD O3.out hsz HBB.out _ _ _⟩

end Go.Proofs.Ytmiopbpahkgmbaa
