/- Lanes that run alone: the model's copy of any lane, also of one whose registers are nil. -/
import Derived.Test.YtmiopbpahkgmbaaLaneQ
import Derived.Test.YtmiopbpahkgmbaaSep
import Derived.Test.YtmiopbpahkgmbaaRuns
namespace Go.Proofs.Ytmiopbpahkgmbaa
open Go.RowKit Go

section
variable {P : Program} {w : World}
/-- Nothing is appended: nil behind whatever slice. -/
theorem run_append_none (w : World) (t ty e : TypeId) (i : TypeInfo) (ht : P.underlying t = some (.slice e)) (hi : P.info? e = some i) (base : Option Addr) (n c m : Nat) (hle : n ≤ c) :
    (Builtin.append_ #[t, t] ty #[.slice base n c, .slice none 0 m]).run P w = .ok (.slice base n c) w := by
  cases base <;> simp [Builtin.append_, run_underlying ht, sizeOf, typeInfo, hi, Builtin.lenOf, Builtin.firstCells, loadCells, storeCells, hle]
theorem step_append_none {ops : Array Oper} {o : Oper} {a : Act} {K : Act → World → Prop} {Q : Exit → Act → World → Prop} {E : Prop} (hgd : o.guard = none) (s x : Operand) (t : TypeId)
    (ho : o.op = .call { callee := .builtin .append, args := #[s, x], argTypes := #[t, t] })
    (e : TypeId) (i : TypeInfo) (ht : P.underlying t = some (.slice e)) (hi : P.info? e = some i) (base : Option Addr) (n c m : Nat) (hle : n ≤ c)
    (hs : a.eval s = .slice base n c) (hx : a.eval x = .slice none 0 m) (h : K (a.put o.dst (.slice base n c)) w) :
    if Region.wanted o (yielded ops a.tmps) = true then Oper.wp P o a w K Q else E := by
  have hw : Region.wanted o (yielded ops a.tmps) = true := by simp [Region.wanted, hgd]
  rw [if_pos hw]
  have hr := run_append_none (P := P) w t o.type e i ht hi base n c m hle
  unfold Oper.wp execOp
  simp only [ho, resolve, invoke, builtin, Sem.run_bind, Sem.run_pure, Result.andThen_ok, List.map_toArray, List.map_cons, List.map_nil, hs, hx, hr]
  exact h
end

set_option maxRecDepth 100000 in
set_option maxHeartbeats 2000000 in
theorem sCopyNil_any (w : World) (t pc : Int) (rc : Nat) :
    Calls Try.prog 72 #[.agg #[.int .i64 t, .int .i64 pc, .slice none 0 rc]] w (LaneSaid t pc [] w) := by
  obtain ⟨i0, hi0, hz0, hz1, hz2⟩ := info_parts info_int
  obtain ⟨w0, hw0⟩ : ∃ w0, w0 = (w.alloc (.cells #[.int .i64 t, .int .i64 pc, .slice none 0 rc] 27)).alloc (.cells #[.int .i64 0, .int .i64 0, .slice none 0 0] 27) := ⟨_, rfl⟩
  have hTB := @two_boxes w
  have H0 := Lib.hid (show ∀ W, Kept w0 W → Box 27 W w.heap.size #[.int .i64 t, .int .i64 pc, .slice none 0 rc] ∧ Box 27 W (w.heap.size + 1) #[.int .i64 0, .int .i64 0, .slice none 0 0] ∧ Below w.heap.size w W ∧ w.heap.size + 2 ≤ W.heap.size from fun W hW => hTB (by rw [← hw0]; exact hW))
  have hk1 : Kept w0 w0 := Below.refl _ _
  clear hTB
  have hs1 := (H0.out w0 hk1).2.2.2
  obtain ⟨⟨z0, z1, z2⟩, _, z3⟩ := (H0.out w0 hk1).1.three
  obtain ⟨⟨x0, x1, x2⟩, x3, x4⟩ := (H0.out w0 hk1).2.1.three
  go_enter Try.func72, Try.ntmps72
  go_upto_region 1 with fail
  rw [← hw0]
  have hs2 : w0.heap.size = w.heap.size + 2 := by rw [hw0]; simp
  clear hw0
  have HB := (((H0.out w0 hk1).2.2.1.setCell (show w.heap.size ≤ w.heap.size + 1 by omega) (.int .i64 t) (p := ⟨w.heap.size + 1, 0, none⟩)).setCell (show w.heap.size ≤ w.heap.size + 1 by omega) (.int .i64 pc) (p := ⟨w.heap.size + 1, 1, none⟩)).setCell (show w.heap.size ≤ w.heap.size + 1 by omega) (.slice (some ⟨w0.heap.size, 0, none⟩) 0 0) (p := ⟨w.heap.size + 1, 2, none⟩)
  have HM : Own w.heap.size ((((w0.setCell ⟨w.heap.size + 1, 0, none⟩ (.int .i64 t)).setCell ⟨w.heap.size + 1, 1, none⟩ (.int .i64 pc)).setCell ⟨w.heap.size + 1, 2, none⟩ (.slice (some ⟨w0.heap.size, 0, none⟩) 0 0)).alloc (.cells #[] 3)) (.slice (some ⟨w0.heap.size, 0, none⟩) 0 0) [] := made_empty _ _ (by simp) (by simp; omega)
  have HE := And.intro (HM.below (below_drewN _ _ 1)) ((HB.alloc (by simp; omega) (.cells #[] 3)).trans ((below_drewN _ _ 1)))
  have BX : Box 27 ((((w0.setCell ⟨w.heap.size + 1, 0, none⟩ (.int .i64 t)).setCell ⟨w.heap.size + 1, 1, none⟩ (.int .i64 pc)).setCell ⟨w.heap.size + 1, 2, none⟩ (.slice (some ⟨w0.heap.size, 0, none⟩) 0 0)).alloc (.cells #[] 3)) (w.heap.size + 1) #[.int .i64 t, .int .i64 pc, .slice (some ⟨w0.heap.size, 0, none⟩) 0 0] := Box.alloc (((((H0.out w0 hk1).2.1.stored 0 _).stored 1 _).stored 2 _)) _
  have y0 : ((((w0.setCell ⟨w.heap.size + 1, 0, none⟩ (.int .i64 t)).setCell ⟨w.heap.size + 1, 1, none⟩ (.int .i64 pc)).setCell ⟨w.heap.size + 1, 2, none⟩ (.slice (some ⟨w0.heap.size, 0, none⟩) 0 0)).alloc (.cells #[] 3)).cell? ⟨w.heap.size + 1, 0, none⟩ = some (.int .i64 t) := BX.cell 0
  have y1 : ((((w0.setCell ⟨w.heap.size + 1, 0, none⟩ (.int .i64 t)).setCell ⟨w.heap.size + 1, 1, none⟩ (.int .i64 pc)).setCell ⟨w.heap.size + 1, 2, none⟩ (.slice (some ⟨w0.heap.size, 0, none⟩) 0 0)).alloc (.cells #[] 3)).cell? ⟨w.heap.size + 1, 1, none⟩ = some (.int .i64 pc) := BX.cell 1
  have y2 : ((((w0.setCell ⟨w.heap.size + 1, 0, none⟩ (.int .i64 t)).setCell ⟨w.heap.size + 1, 1, none⟩ (.int .i64 pc)).setCell ⟨w.heap.size + 1, 2, none⟩ (.slice (some ⟨w0.heap.size, 0, none⟩) 0 0)).alloc (.cells #[] 3)).cell? ⟨w.heap.size + 1, 2, none⟩ = some (.slice (some ⟨w0.heap.size, 0, none⟩) 0 0) := BX.cell 2
  have HX := Lib.hid HE
  clear BX
  clear HM HE HB hs2
  go_region_law (refine step_append_none rfl (.tmp 7) (.tmp 9) 25 rfl 3 i0 Try.underlying25 hi0 _ 0 _ rc (Nat.zero_le _) rfl rfl ?_)
  all_goals go_wp2_with fail
  all_goals exact bodyPost_ret (v := .agg #[.int .i64 t, .int .i64 pc, .slice (some ⟨w0.heap.size, 0, none⟩) 0 0]) (by simp [results, Try.results72, go_sem, y0, y1, y2]) rfl ⟨_, _, rfl, HX.out⟩

/-- The model's copy of any lane. -/
theorem sCopied_any (t pc : Int) (B2 : Nat) (w : World) (ra : Option Addr) (rs : List Int) (rc : Nat) (hl2 : rs.length ≤ 10000000) (h2 : Nums B2 w ra rs) (hB2 : B2 ≤ w.heap.size) :
    Calls Try.prog 72 #[.agg #[.int .i64 t, .int .i64 pc, .slice ra rs.length rc]] w (LaneSaid t pc rs w) := by
  cases ra with
  | some ad => exact sCopy_any B2 w t pc ad rs rc hl2 h2 hB2
  | none =>
    cases rs with
    | nil => exact sCopyNil_any w t pc rc
    | cons x xs =>
      obtain ⟨g, off, e, _⟩ := h2.2 0 (by simp)
      cases e

end Go.Proofs.Ytmiopbpahkgmbaa
