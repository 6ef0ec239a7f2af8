/- Lanes: the model's copy, step, LocalStep, ApplyIns, LaneNew, LaneEnded. -/
import Derived.Test.YtmiopbpahkgmbaaLaneT
import Derived.Test.YtmiopbpahkgmbaaStepApp
namespace Go.Proofs.Ytmiopbpahkgmbaa
open Go.RowKit Go

/-- A lane is returned, its registers in memory of the call's own. -/
def LaneSaid (t pc : Int) (rs : List Int) (w : World) (e : Ending) (w' : World) : Prop :=
  ∃ (a : Option Addr) (c : Nat), e = .returned (.agg #[.int .i64 t, .int .i64 pc, .slice a rs.length c]) ∧ Own w.heap.size w' (.slice a rs.length c) rs ∧ Below w.heap.size w w'

theorem set3_own {B b : Nat} {w : World} {v : Value} {xs : List Int} (h : Own (b + 2) w v xs) (x y z : Value) (hB : B ≤ b + 2) : Own B (((w.setCell ⟨b + 1, 0, none⟩ x).setCell ⟨b + 1, 1, none⟩ y).setCell ⟨b + 1, 2, none⟩ z) v xs :=
  Own.lower (((h.setAway _ _ (by show b + 1 < b + 2; omega)).setAway _ _ (by show b + 1 < b + 2; omega)).setAway _ _ (by show b + 1 < b + 2; omega)) hB
theorem set3_below {w w2 : World} (h : Below w.heap.size w w2) (x y z : Value) : Below w.heap.size w (((w2.setCell ⟨w.heap.size + 1, 0, none⟩ x).setCell ⟨w.heap.size + 1, 1, none⟩ y).setCell ⟨w.heap.size + 1, 2, none⟩ z) :=
  ((h.setCell (by show w.heap.size ≤ w.heap.size + 1; omega) _).setCell (by show w.heap.size ≤ w.heap.size + 1; omega) _).setCell (by show w.heap.size ≤ w.heap.size + 1; omega) _

/-- Behind the copy of a row into a new one: the row, and the two blocks that stand. -/
theorem copy_laid {w w2 : World} {c0 c1 : Array Value} {T : TypeId} {v2 : Value} {rs : List Int} (hown : w2.ownsRow (w.heap.size + 2) 3 1 v2 (0 + rs.length) ([] ++ rs.map (.int .i64)))
    (hg : (((w.alloc (.cells c0 T)).alloc (.cells c1 T)).alloc (.cells #[] 3)).grownBy w2 (Value.slice (some ⟨w.heap.size + 2, 0, none⟩) 0 0).ownBlock) :
    ∃ a2 cc2, v2 = .slice a2 rs.length cc2 ∧ Own (w.heap.size + 2) w2 (.slice a2 rs.length cc2) rs ∧ Box T w2 w.heap.size c0 ∧ Box T w2 (w.heap.size + 1) c1 ∧ Below w.heap.size w w2 := by
  have ho : Own (w.heap.size + 2) w2 v2 rs := by
    unfold Own
    rw [Nat.zero_add, List.nil_append] at hown
    exact hown
  obtain ⟨a2, cc2, rfl⟩ := ho.form
  have h1 : Box T ((w.alloc (.cells c0 T)).alloc (.cells c1 T)) (w.heap.size + 1) c1 := by
    have := Box.new T (w.alloc (.cells c0 T)) c1
    simpa using this
  refine ⟨a2, cc2, rfl, ho, (((Box.new T w c0).alloc _).alloc _).grown hg (by simp [Value.ownBlock]), (h1.alloc _).grown hg (by simp [Value.ownBlock]), (below3 w _ _ _).grown hg (by simp; omega) (fun k e => by simp [Value.ownBlock] at e; omega)⟩

set_option maxRecDepth 100000 in
set_option maxHeartbeats 2000000 in
theorem sCopy_any (B : Nat) (w : World) (t pc : Int) (ad : Addr) (rs : List Int) (rc : Nat) (hl : rs.length ≤ 10000000) (h : Nums B w (some ad) rs) (hB : B ≤ w.heap.size) :
    Calls Try.prog 72 #[.agg #[.int .i64 t, .int .i64 pc, .slice (some ad) rs.length rc]] w (LaneSaid t pc rs w) := by
  obtain ⟨i0, hi0, hz0, hz1, hz2⟩ := info_parts info_int
  have hb3 := below3 w (.cells #[.int .i64 t, .int .i64 pc, .slice (some ad) rs.length rc] 27) (.cells #[.int .i64 0, .int .i64 0, .slice none 0 0] 27) (.cells #[] 3)
  have HS := Lib.hid (nums_cells (h.kept (hb3.mono hB)))
  have HME := Lib.hid (made_empty (base := w.heap.size + 2) ((w.alloc (.cells #[.int .i64 t, .int .i64 pc, .slice (some ad) rs.length rc] 27)).alloc (.cells #[.int .i64 0, .int .i64 0, .slice none 0 0] 27)) (w.heap.size + 2) (by simp) (by simp))
  have HML := Lib.hid (show (rs.map (Value.int .i64)).length = rs.length * 1 by simp)
  clear h hb3
  go_enter Try.func72, Try.ntmps72
  go_upto_region 1 with fail
  go_region_law (refine step_append_at rfl (.tmp 7) (.tmp 9) 25 rfl (w.heap.size + 2) 3 i0 (.int .i64 0) 1 8 Try.underlying25 hi0 hz0 hz1 hz2 rfl (by decide) _ 0 [] rfl HME.out ad rs.length rc (rs.map (.int .i64)) rfl HML.out HS.out (by intro u hu; obtain ⟨x, _, rfl⟩ := List.mem_map.1 hu; rfl) (by unfold maxLen; omega) (by omega) (by simp) ?_; intro v2 w2 hown2 hgrow2 hat2; obtain ⟨a2, cc2, rfl, hO, hL, hR, hB2⟩ := copy_laid hown2 (by first | exact hgrow2 | exact grownBy_trans (grownBy_drew _ _) hgrow2); have HO := Lib.hid hO; have HB2 := Lib.hid hB2; have r0 := hR.cell 0; have r1 := hR.cell 1; have r2 := hR.cell 2; have l0 := hL.cell 0; have l1 := hL.cell 1; have l2 := hL.cell 2; have hf := hR.frozen; simp at r0 r1 r2 l0 l1 l2; clear hown2 hgrow2 hat2 hO hB2)
  all_goals go_wp2_with fail
  all_goals exact bodyPost_ret (v := .agg #[.int .i64 t, .int .i64 pc, .slice a2 rs.length cc2]) (by simp [results, Try.results72, go_sem, r0, r1, r2]) rfl ⟨_, _, rfl, set3_own HO.out _ _ _ (by omega), set3_below HB2.out _ _ _⟩

end Go.Proofs.Ytmiopbpahkgmbaa
