/- Lanes: a copy of a lane, and a lane behind a step (the program's own). -/
import Derived.Test.YtmiopbpahkgmbaaLaneG
namespace Go.Proofs.Ytmiopbpahkgmbaa
open Go.RowKit Go

/-- The end of a function that returns a lane whose registers a callee made. -/
theorem end3 {w w3 : World} {W b : Nat} {v : Value} {xs : List Int} (o : Own W w3 v xs) (hW : b < W) (hw : w.heap.size ≤ b) (hb : Below w.heap.size w w3) (x y z : Value) :
    Own w.heap.size (((w3.setCell ⟨b, 0, none⟩ x).setCell ⟨b, 1, none⟩ y).setCell ⟨b, 2, none⟩ z) v xs ∧ Below w.heap.size w (((w3.setCell ⟨b, 0, none⟩ x).setCell ⟨b, 1, none⟩ y).setCell ⟨b, 2, none⟩ z) :=
  ⟨Own.lower (((o.setAway _ _ (by exact hW)).setAway _ _ (by exact hW)).setAway _ _ (by exact hW)) (by omega), ((hb.setCell (by exact hw) _).setCell (by exact hw) _).setCell (by exact hw) _⟩
theorem end3D {w w3 : World} {W b : Nat} {v : Value} {xs : List Int} (o : Own W w3 v xs) (hW : b < W) (hw : w.heap.size ≤ b) (hb : Below w.heap.size w w3) (x y z : Value) :
    Own w.heap.size (((w3.setCell ⟨b, 0, none⟩ x).setCell ⟨b, 1, none⟩ y).setCell ⟨b, 2, none⟩ z).drew v xs ∧ Below w.heap.size w (((w3.setCell ⟨b, 0, none⟩ x).setCell ⟨b, 1, none⟩ y).setCell ⟨b, 2, none⟩ z).drew := by
  obtain ⟨h1, h2⟩ := end3 o hW hw hb x y z
  exact ⟨h1.below (below_drewN _ _ 1), h2.trans (below_drewN _ _ 1)⟩
theorem three_boxes {w W : World} {c0 c1 c2 : Array Value} {T U V : TypeId} (hk : Kept (((w.alloc (.cells c0 T)).alloc (.cells c1 U)).alloc (.cells c2 V)) W) :
    Box T W w.heap.size c0 ∧ Box U W (w.heap.size + 1) c1 ∧ Box V W (w.heap.size + 2) c2 ∧ Below w.heap.size w W ∧ w.heap.size + 3 ≤ W.heap.size := by
  have h1 : Box U ((w.alloc (.cells c0 T)).alloc (.cells c1 U)) (w.heap.size + 1) c1 := by
    have := Box.new U (w.alloc (.cells c0 T)) c1
    simpa using this
  have h2 : Box V (((w.alloc (.cells c0 T)).alloc (.cells c1 U)).alloc (.cells c2 V)) (w.heap.size + 2) c2 := by
    have := Box.new V ((w.alloc (.cells c0 T)).alloc (.cells c1 U)) c2
    simpa using this
  have hs := hk.size
  simp at hs
  exact ⟨(((Box.new T w c0).alloc _).alloc _).below hk, (h1.alloc _).below hk, h2.below hk, (below3 w _ _ _).trans (Below.mono hk (by simp; omega)), by omega⟩

set_option maxRecDepth 100000 in
set_option maxHeartbeats 4000000 in
theorem pCopied_any (t pc : Int) (B2 : Nat) (w : World) (ra : Option Addr) (rs : List Int) (rc : Nat) (hl2 : rs.length ≤ 10000000) (h2 : Nums B2 w ra rs) (hB2 : B2 ≤ w.heap.size) :
    Calls Try.prog 60 #[.agg #[.int .i64 t, .int .i64 pc, .slice ra rs.length rc]] w (LaneSaid t pc rs w) := by
  obtain ⟨w0, hw0⟩ : ∃ w0, w0 = (w.alloc (.cells #[.int .i64 t, .int .i64 pc, .slice ra rs.length rc] 27)).alloc (.cells #[.int .i64 0, .int .i64 0, .slice none 0 0] 27) := ⟨_, rfl⟩
  have hTB := @two_boxes w
  have H0 := Lib.hid (show ∀ W, Kept w0 W → Box 27 W w.heap.size #[.int .i64 t, .int .i64 pc, .slice ra rs.length rc] ∧ Box 27 W (w.heap.size + 1) #[.int .i64 0, .int .i64 0, .slice none 0 0] ∧ Below w.heap.size w W ∧ w.heap.size + 2 ≤ W.heap.size from fun W hW => hTB (by rw [← hw0]; exact hW))
  have HCP := Lib.hid (fun W (hW : Kept w0 W) => pClone_any B2 W ra rs rc hl2 (h2.kept ((H0.out W hW).2.2.1.mono hB2)))
  have hk1 : Kept w0 w0 := Below.refl _ _
  clear h2 hTB
  have hs1 := (H0.out w0 hk1).2.2.2
  have hwl := Lib.hid (fun W (hW : Kept w0 W) => (show (W.cell? ⟨w.heap.size, 0, none⟩ = some (.int .i64 t) ∧ W.cell? ⟨w.heap.size, 1, none⟩ = some (.int .i64 pc) ∧ W.cell? ⟨w.heap.size, 2, none⟩ = some (.slice ra rs.length rc)) ∧ w.heap.size < W.heap.size from ⟨⟨(H0.out W hW).1.cell 0, (H0.out W hW).1.cell 1, (H0.out W hW).1.cell 2⟩, (H0.out W hW).1.lt⟩))
  have hwr := Lib.hid (fun W (hW : Kept w0 W) => (show (W.cell? ⟨w.heap.size + 1, 0, none⟩ = some (.int .i64 0) ∧ W.cell? ⟨w.heap.size + 1, 1, none⟩ = some (.int .i64 0) ∧ W.cell? ⟨w.heap.size + 1, 2, none⟩ = some (.slice none 0 0)) ∧ (∀ j, W.frozen? ⟨w.heap.size + 1, j, none⟩ = false) ∧ w.heap.size + 1 < W.heap.size from ⟨⟨(H0.out W hW).2.1.cell 0, (H0.out W hW).2.1.cell 1, (H0.out W hW).2.1.cell 2⟩, (H0.out W hW).2.1.frozen, (H0.out W hW).2.1.lt⟩))
  obtain ⟨⟨z0, z1, z2⟩, z3⟩ := hwl.out w0 hk1
  go_enter Try.func60, Try.ntmps60
  go_upto_region 1 with fail
  rw [← hw0]
  clear hw0
  go_region_held3 (fun w' => w'.cell? ⟨w.heap.size, 0, none⟩ = some (.int .i64 t) ∧ w'.cell? ⟨w.heap.size, 1, none⟩ = some (.int .i64 pc) ∧ w'.cell? ⟨w.heap.size, 2, none⟩ = some (.slice ra rs.length rc)) (first | go_keep | ((repeat' apply And.intro) <;> (first | (rw [hb1.cell (by simp; omega)]; simp [*]) | go_keep))) ((first
    | (go_at_call 85; refine (HCP.out _ (by first | exact hk1 | exact Kept.drew hk1)).mono ?_; rintro e w2 ⟨v, rfl, o2, hb1⟩; obtain ⟨a2, cc2, rfl⟩ := o2.form; have O2 := Lib.hid o2; clear o2; replace hk1 : Kept w0 w2 := (by first | exact Kept.call hk1 hb1 | exact Kept.call (Kept.drew hk1) hb1); obtain ⟨⟨x0, x1, x2⟩, x3, x4⟩ := hwr.out w2 hk1)))
  go_wp2_with fail
  exact bodyPost_ret (v := .agg #[.int .i64 t, .int .i64 pc, .slice a2 rs.length cc2]) (by simp [results, Try.results60, go_sem, x0, x1, x2]) rfl ⟨a2, cc2, rfl, by first | exact step_end O2.out hs1 (H0.out w2 hk1).2.2.1 _ _ _ | exact step_endD O2.out hs1 (H0.out w2 hk1).2.2.1 _ _ _⟩

set_option maxRecDepth 100000 in
set_option maxHeartbeats 4000000 in
theorem pStepped_any (w : World) (p : List I4) (k : Nat) (hk : k < p.length) (x : I4) (hx : insOk x.o x.a x.b x.c p.length = true) (h32 : p.length ≤ 32) (t : Int) (B2 : Nat) (ra : Option Addr) (rs : List Int) (rc : Nat) (hr4 : rs.length = 4) (h2 : Nums B2 w ra rs) (hB2 : B2 ≤ w.heap.size) :
    Calls Try.prog 61 #[.agg #[.int .i64 t, .int .i64 k, .slice ra 4 rc], .agg #[.int .i64 x.o, .int .i64 x.a, .int .i64 x.b, .int .i64 x.c], .int .i64 p.length] w (LaneSaid t (nextR p k x rs) (applyR x t rs) w) := by
  have hlen : (applyR x t rs).length = 4 := by rw [applyR_len]; exact hr4
  have HPC := fun (W : World) (N : Nums B2 W ra rs) (hs : B2 ≤ W.heap.size) => pPcAfter_any W t k x p.length hx p (by omega) rs hr4 B2 ra rc N hs
  have HRG := fun (W : World) (N : Nums B2 W ra rs) (hs : B2 ≤ W.heap.size) => pRegs_any B2 W x p.length t k rs ra rc hx hr4 N hs
  generalize applyR x t rs = ys at *
  generalize nextR p k x rs = m at *
  obtain ⟨xo, xa, xb, xc⟩ := x
  simp only at HPC HRG
  replace HPC := Lib.hid HPC
  replace HRG := Lib.hid HRG
  obtain ⟨w0, hw0⟩ : ∃ w0, w0 = ((w.alloc (.cells #[.int .i64 t, .int .i64 k, .slice ra 4 rc] 27)).alloc (.cells #[.int .i64 xo, .int .i64 xa, .int .i64 xb, .int .i64 xc] 33)).alloc (.cells #[.int .i64 0, .int .i64 0, .slice none 0 0] 27) := ⟨_, rfl⟩
  have hTB := @three_boxes w
  have H0 := Lib.hid (show ∀ W, Kept w0 W → Box 27 W w.heap.size #[.int .i64 t, .int .i64 k, .slice ra 4 rc] ∧ Box 33 W (w.heap.size + 1) #[.int .i64 xo, .int .i64 xa, .int .i64 xb, .int .i64 xc] ∧ Box 27 W (w.heap.size + 2) #[.int .i64 0, .int .i64 0, .slice none 0 0] ∧ Below w.heap.size w W ∧ w.heap.size + 3 ≤ W.heap.size from fun W hW => hTB (by rw [← hw0]; exact hW))
  have HNW := Lib.hid (fun W (hW : Kept w0 W) => (show Nums B2 W ra rs ∧ B2 ≤ W.heap.size from ⟨h2.kept ((H0.out W hW).2.2.2.1.mono hB2), Nat.le_trans hB2 (by have := (H0.out W hW).2.2.2.2; omega)⟩))
  have hk6 : Kept w0 w0 := Below.refl _ _
  have hz6 := hk6.size
  clear h2 hTB hx
  have hs1 := (H0.out w0 hk6).2.2.2.2
  have hwl := Lib.hid (fun W (hW : Kept w0 W) => (show (W.cell? ⟨w.heap.size, 0, none⟩ = some (.int .i64 t) ∧ W.cell? ⟨w.heap.size, 1, none⟩ = some (.int .i64 (k : Int)) ∧ W.cell? ⟨w.heap.size, 2, none⟩ = some (.slice ra 4 rc)) ∧ (W.cell? ⟨w.heap.size + 1, 0, none⟩ = some (.int .i64 xo) ∧ W.cell? ⟨w.heap.size + 1, 1, none⟩ = some (.int .i64 xa) ∧ W.cell? ⟨w.heap.size + 1, 2, none⟩ = some (.int .i64 xb) ∧ W.cell? ⟨w.heap.size + 1, 3, none⟩ = some (.int .i64 xc)) from ⟨⟨(H0.out W hW).1.cell 0, (H0.out W hW).1.cell 1, (H0.out W hW).1.cell 2⟩, (H0.out W hW).2.1.cell 0, (H0.out W hW).2.1.cell 1, (H0.out W hW).2.1.cell 2, (H0.out W hW).2.1.cell 3⟩))
  have hwr := Lib.hid (fun W (hW : Kept w0 W) => (show (W.cell? ⟨w.heap.size + 2, 0, none⟩ = some (.int .i64 0) ∧ W.cell? ⟨w.heap.size + 2, 1, none⟩ = some (.int .i64 0) ∧ W.cell? ⟨w.heap.size + 2, 2, none⟩ = some (.slice none 0 0)) ∧ (∀ j, W.frozen? ⟨w.heap.size + 2, j, none⟩ = false) ∧ w.heap.size + 2 < W.heap.size from ⟨⟨(H0.out W hW).2.2.1.cell 0, (H0.out W hW).2.2.1.cell 1, (H0.out W hW).2.2.1.cell 2⟩, (H0.out W hW).2.2.1.frozen, (H0.out W hW).2.2.1.lt⟩))
  obtain ⟨⟨z0, z1, z2⟩, i0, i1, i2, i3⟩ := hwl.out w0 hk6
  have hne1 : w.heap.size + 1 + 1 ≠ w.heap.size := by omega
  have hne2 : w.heap.size ≠ w.heap.size + 1 + 1 := by omega
  go_enter Try.func61, Try.ntmps61
  go_upto_region 1 with fail
  rw [← hw0]
  clear hw0
  go_region_held3 (fun w' => (w'.cell? ⟨w.heap.size, 0, none⟩ = some (.int .i64 t) ∧ w'.cell? ⟨w.heap.size, 1, none⟩ = some (.int .i64 (k : Int)) ∧ w'.cell? ⟨w.heap.size, 2, none⟩ = some (.slice ra 4 rc)) ∧ (w'.cell? ⟨w.heap.size + 1, 0, none⟩ = some (.int .i64 xo) ∧ w'.cell? ⟨w.heap.size + 1, 1, none⟩ = some (.int .i64 xa) ∧ w'.cell? ⟨w.heap.size + 1, 2, none⟩ = some (.int .i64 xb) ∧ w'.cell? ⟨w.heap.size + 1, 3, none⟩ = some (.int .i64 xc))) (first | go_keep | ((repeat' apply And.intro) <;> (first | (rw [hb1.cell (by simp; omega)]; simp [*]) | go_keep))) ((first
    | (go_at_call 89; refine (HPC.out _ (HNW.out _ (by first | exact hk6 | exact Kept.drew hk6)).1 (HNW.out _ (by first | exact hk6 | exact Kept.drew hk6)).2).mono ?_; rintro e w6 ⟨rfl, hb1⟩; replace hk6 : Kept w0 w6 := (by first | exact Kept.call hk6 hb1 | exact Kept.call (Kept.drew hk6) hb1); have hz6 := hk6.size)
    | (go_at_call 55; refine (HRG.out _ (HNW.out _ (by first | exact hk6 | exact Kept.drew hk6)).1 (HNW.out _ (by first | exact hk6 | exact Kept.drew hk6)).2).mono ?_; rintro e w7 ⟨v, rfl, o2, hb1⟩; obtain ⟨a2, cc2, rfl⟩ := o2.form; have O2 := Lib.hid o2; clear o2; replace hk6 : Kept w0 w7 := (by first | exact Kept.call hk6 hb1 | exact Kept.call (Kept.drew hk6) hb1); have hz7 := hk6.size; obtain ⟨⟨x0, x1, x2⟩, x3, x4⟩ := hwr.out w7 hk6)))
  go_wp2_with fail
  exact bodyPost_ret (v := .agg #[.int .i64 t, .int .i64 m, .slice a2 4 cc2]) (by simp [results, Try.results61, go_sem, x0, x1, x2]) rfl ⟨a2, cc2, by rw [hlen], by first | exact end3 O2.out (by omega) (by omega) (H0.out w7 hk6).2.2.2.1 _ _ _ | exact end3D O2.out (by omega) (by omega) (H0.out w7 hk6).2.2.2.1 _ _ _⟩

end Go.Proofs.Ytmiopbpahkgmbaa
