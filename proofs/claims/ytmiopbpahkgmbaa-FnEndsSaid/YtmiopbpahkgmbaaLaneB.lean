/- Lanes: the program's registers behind an instruction, and where it goes on. -/
import Derived.Test.YtmiopbpahkgmbaaLaneA
import Derived.Test.YtmiopbpahkgmbaaKept
namespace Go.Proofs.Ytmiopbpahkgmbaa
open Go.RowKit Go

/-- slices.Clone over a row that is read. -/
theorem pClone_any (B : Nat) (w : World) (a : Option Addr) (xs : List Int) (cap : Nat) (hl : xs.length ≤ 10000000) (h : Nums B w a xs) :
    Calls Try.prog 85 #[.slice a xs.length cap] w (RowSaid xs w) := by
  by_cases h0 : xs.length = 0
  · obtain rfl : xs = [] := List.eq_nil_of_length_eq_zero h0
    cases a with
    | none =>
      refine (Try.slices_Clone_int_nil 0 cap w).mono ?_
      rintro e w' ⟨rfl, rfl⟩
      exact ⟨_, rfl, Own.nil _ _, Below.refl _ _⟩
    | some a =>
      refine (Try.slices_Clone_int_zero a cap w).mono ?_
      rintro e w' ⟨v', rfl, ho, _, hb⟩
      exact ⟨v', rfl, ho, hb⟩
  · obtain ⟨g, off, rfl, _, _⟩ := h.2 0 (by omega)
    refine (Try.slices_Clone_int g off xs.length cap xs w (Nat.le_refl _) (by omega) (fun j hj => ?_)).mono ?_
    · obtain ⟨g', off', e, _, hc⟩ := h.2 j hj
      cases e
      rw [hc, List.getD_eq_getElem?_getD, List.getElem?_eq_getElem hj]
      rfl
    · rintro e w' ⟨v', rfl, ho, _, hb⟩
      rw [List.take_of_length_le (Nat.le_refl _)] at ho
      exact ⟨v', rfl, ho, hb⟩

/-- Behind the copy of the registers: the copy, the lane's block, the instruction's block, the registers. -/
structure Laid (w w2 : World) (gO : Nat) (t pc o a b c : Int) (rv : Value) (rs : List Int) (g off : Nat) : Prop where
  bel : Below w.heap.size w w2
  lan : Box 27 w2 w.heap.size #[.int .i64 t, .int .i64 pc, rv]
  ins : Box 33 w2 (w.heap.size + 1) #[.int .i64 o, .int .i64 a, .int .i64 b, .int .i64 c]
  reg : ∀ k : Nat, k < 4 → w2.cell? ⟨g, off + k, none⟩ = some (.int .i64 (rg rs k))
  out : ∀ k : Nat, k < 4 → w2.cell? ⟨gO, k, none⟩ = some (.int .i64 (rg rs k))
  fz : ∀ k : Nat, w2.frozen? ⟨gO, k, none⟩ = false
  gl : g < w.heap.size
  ne : w.heap.size + 2 ≤ gO ∧ gO < w2.heap.size

theorem laid {B : Nat} {w w2 : World} {t pc o a b c : Int} {rs : List Int} {g off cap : Nat} {v : Value} (hl : rs.length = 4) (h : Nums B w (some ⟨g, off, none⟩) rs) (hB : B ≤ w.heap.size)
    (ho : Own ((w.alloc (.cells #[.int .i64 t, .int .i64 pc, .slice (some ⟨g, off, none⟩) 4 cap] 27)).alloc (.cells #[.int .i64 o, .int .i64 a, .int .i64 b, .int .i64 c] 33)).heap.size w2 v rs)
    (hb : Below ((w.alloc (.cells #[.int .i64 t, .int .i64 pc, .slice (some ⟨g, off, none⟩) 4 cap] 27)).alloc (.cells #[.int .i64 o, .int .i64 a, .int .i64 b, .int .i64 c] 33)).heap.size ((w.alloc (.cells #[.int .i64 t, .int .i64 pc, .slice (some ⟨g, off, none⟩) 4 cap] 27)).alloc (.cells #[.int .i64 o, .int .i64 a, .int .i64 b, .int .i64 c] 33)) w2) :
    ∃ gO cO, v = .slice (some ⟨gO, 0, none⟩) 4 cO ∧ Own w.heap.size w2 (.slice (some ⟨gO, 0, none⟩) 4 cO) rs ∧ Laid w w2 gO t pc o a b c (.slice (some ⟨g, off, none⟩) 4 cap) rs g off := by
  obtain ⟨av, cv, rfl⟩ := ho.form
  obtain ⟨gO, rfl, hgO, hgO2, _⟩ := ho.cell 0 (by omega)
  rw [hl] at ho ⊢
  have hsz : ((w.alloc (.cells #[.int .i64 t, .int .i64 pc, .slice (some ⟨g, off, none⟩) 4 cap] 27)).alloc (.cells #[.int .i64 o, .int .i64 a, .int .i64 b, .int .i64 c] 33)).heap.size = w.heap.size + 2 := by simp
  have hbel : Below w.heap.size w w2 := (below2 w _ _).trans (hb.mono (by rw [hsz]; omega))
  obtain ⟨g', off', e', hgB, _⟩ := h.2 0 (by omega)
  have hgg : g < B := by cases e'; exact hgB
  have hnum : ∀ k : Nat, k < 4 → ∃ hk : k < rs.length, rg rs k = rs[k] := fun k hk => ⟨by omega, by unfold rg; rw [Int.toNat_natCast, List.getD_eq_getElem?_getD, List.getElem?_eq_getElem (by omega)]; rfl⟩
  refine ⟨gO, cv, rfl, Own.lower (B := w.heap.size + 2) (by rw [hsz] at ho; exact ho) (by omega), hbel, ((Box.new _ w _).alloc _).below hb, ?_, fun k hk => ?_, fun k hk => ?_, fun k => ?_, by omega, by omega, hgO2⟩
  · have := (Box.new 33 (w.alloc (.cells #[.int .i64 t, .int .i64 pc, .slice (some ⟨g, off, none⟩) 4 cap] 27)) #[.int .i64 o, .int .i64 a, .int .i64 b, .int .i64 c]).below hb
    simpa using this
  · obtain ⟨hk', e⟩ := hnum k hk
    obtain ⟨g2, o2, e2, hg2B, hc⟩ := h.2 k hk'
    cases e2
    rw [e, hbel.cell (p := ⟨g, off + k, none⟩) (by show g < w.heap.size; omega)]
    exact hc
  · obtain ⟨hk', e⟩ := hnum k hk
    obtain ⟨g2, e2, _, _, hc⟩ := ho.cell k hk'
    cases e2
    rw [e]
    exact hc
  · exact World.ownsRow.frozenAt (by have := ho; unfold Own at this; rw [hl] at this; exact this) k

set_option maxRecDepth 100000 in
set_option maxHeartbeats 2000000 in
theorem pRegs1_any (B : Nat) (w : World) (t pc : Int) (a : Nat) (b c : Int) (rs : List Int) (g off cap : Nat) (hl : rs.length = 4) (ha : a < 4) (h : Nums B w (some ⟨g, off, none⟩) rs) (hB : B ≤ w.heap.size) :
    Calls Try.prog 55 #[.agg #[.int .i64 t, .int .i64 pc, .slice (some ⟨g, off, none⟩) 4 cap], .agg #[.int .i64 1, .int .i64 a, .int .i64 b, .int .i64 c]] w (RowSaid (rs.set a b) w) := by
  have hb0 := below2 w (.cells #[.int .i64 t, .int .i64 pc, .slice (some ⟨g, off, none⟩) 4 cap] 27) (.cells #[.int .i64 1, .int .i64 a, .int .i64 b, .int .i64 c] 33)
  have HCL := pClone_any B _ (some ⟨g, off, none⟩) rs cap (by omega) (h.kept (hb0.mono hB))
  rw [hl] at HCL
  replace HCL := Lib.hid HCL
  have HRA := Lib.hid (fun (w2 : World) (v : Value) => @laid B w w2 t pc 1 a b c rs g off cap v hl h hB)
  obtain ⟨g', off', e', hgB, _⟩ := h.2 0 (by omega)
  have hgg : g < w.heap.size := by cases e'; omega
  clear e' hgB h hb0
  have a0 : (0 : Int) ≤ (a : Int) := Int.natCast_nonneg _
  have a1 : (a : Int) < 4 := by omega
  go_enter Try.func55, Try.ntmps55
  go_wp2_with fail
  refine HCL.out.mono ?_
  rintro e w2 ⟨v, rfl, o2, b2⟩
  obtain ⟨gO, cO, rfl, hO, hC⟩ := HRA.out w2 v o2 b2
  have HO := Lib.hid hO
  have HC := Lib.hid hC
  have l0 := hC.lan.cell 0; have l1 := hC.lan.cell 1; have l2 := hC.lan.cell 2
  have i0 := hC.ins.cell 0; have i1 := hC.ins.cell 1; have i2 := hC.ins.cell 2; have i3 := hC.ins.cell 3
  simp at l0 l1 l2 i0 i1 i2 i3
  obtain ⟨hn1, hn2⟩ := hC.ne
  have hne1 : gO ≠ w.heap.size := by omega
  have hne2 : gO ≠ w.heap.size + 1 := by omega
  have ll := hC.lan.lt
  have il := hC.ins.lt
  have hoa := hC.out a ha
  have hof := hC.fz a
  have hos : (w2.cell? ⟨gO, a, none⟩).isSome = true := by rw [hoa]; rfl
  have HV := Lib.hid (fun W => value_at 1 (by omega) 102 rfl W)
  have HM := Lib.hid (fun (W : World) (hW : Kept w2 W) => pConstant_any W t pc 1 a b c g off cap)
  have hk0 : Kept w2 w2 := Below.refl _ _
  have hz0 := hk0.size
  clear HRA HCL o2 b2 hO hC
  go_wp2_with fail
  go_region_held3 (fun w' => (w'.cell? ⟨w.heap.size, 0, none⟩ = some (.int .i64 t) ∧ w'.cell? ⟨w.heap.size, 1, none⟩ = some (.int .i64 pc) ∧ w'.cell? ⟨w.heap.size, 2, none⟩ = some (.slice (some ⟨g, off, none⟩) 4 cap)) ∧ (w'.cell? ⟨w.heap.size + 1, 0, none⟩ = some (.int .i64 1) ∧ w'.cell? ⟨w.heap.size + 1, 1, none⟩ = some (.int .i64 (a : Int)) ∧ w'.cell? ⟨w.heap.size + 1, 2, none⟩ = some (.int .i64 b) ∧ w'.cell? ⟨w.heap.size + 1, 3, none⟩ = some (.int .i64 c))) (first | go_keep | ((repeat' apply And.intro) <;> (first | (rw [hb1.cell (by simp; omega)]; simp [*]) | go_keep))) ((first
    | (go_at_call 86; refine (HV.out _).mono ?_; rintro e w3 ⟨rfl, hb1⟩; replace hk0 : Kept w2 w3 := (by first | exact Kept.call hk0 hb1 | exact Kept.call (Kept.drew hk0) hb1); have hz0 := hk0.size)
    | (go_at_call 102; refine (HM.out _ (by first | exact hk0 | exact Kept.drew hk0)).mono ?_; rintro e w4 ⟨rfl, hb1⟩; replace hk0 : Kept w2 w4 := (by first | exact Kept.call hk0 hb1 | exact Kept.call (Kept.drew hk0) hb1); have hz0 := hk0.size; have hoa : w4.cell? ⟨gO, a, none⟩ = w2.cell? ⟨gO, a, none⟩ := hk0.cell (p := ⟨gO, a, none⟩) hn2; have hof : w4.frozen? ⟨gO, a, none⟩ = false := (by rw [hk0.frozen (p := ⟨gO, a, none⟩) hn2]; exact HC.out.fz a))))
  go_wp2_with fail
  go_ret
  first | exact row_setD (HO.out.below hk0) (HC.out.bel.trans (hk0.mono (by omega))) _ _ | exact row_set (HO.out.below hk0) (HC.out.bel.trans (hk0.mono (by omega))) _ _

set_option maxRecDepth 100000 in
set_option maxHeartbeats 2000000 in
theorem pRegs2_any (B : Nat) (w : World) (t pc : Int) (a b : Nat) (c : Int) (rs : List Int) (g off cap : Nat) (hl : rs.length = 4) (ha : a < 4) (hb : b < 4) (h : Nums B w (some ⟨g, off, none⟩) rs) (hB : B ≤ w.heap.size) :
    Calls Try.prog 55 #[.agg #[.int .i64 t, .int .i64 pc, .slice (some ⟨g, off, none⟩) 4 cap], .agg #[.int .i64 2, .int .i64 a, .int .i64 b, .int .i64 c]] w (RowSaid (rs.set a (rg rs b)) w) := by
  have hb0 := below2 w (.cells #[.int .i64 t, .int .i64 pc, .slice (some ⟨g, off, none⟩) 4 cap] 27) (.cells #[.int .i64 2, .int .i64 a, .int .i64 b, .int .i64 c] 33)
  have HCL := pClone_any B _ (some ⟨g, off, none⟩) rs cap (by omega) (h.kept (hb0.mono hB))
  rw [hl] at HCL
  replace HCL := Lib.hid HCL
  have HRA := Lib.hid (fun (w2 : World) (v : Value) => @laid B w w2 t pc 2 a b c rs g off cap v hl h hB)
  obtain ⟨g', off', e', hgB, _⟩ := h.2 0 (by omega)
  have hgg : g < w.heap.size := by cases e'; omega
  clear e' hgB h hb0
  have a0 : (0 : Int) ≤ (a : Int) := Int.natCast_nonneg _
  have a1 : (a : Int) < 4 := by omega
  go_enter Try.func55, Try.ntmps55
  go_wp2_with fail
  refine HCL.out.mono ?_
  rintro e w2 ⟨v, rfl, o2, b2⟩
  obtain ⟨gO, cO, rfl, hO, hC⟩ := HRA.out w2 v o2 b2
  have HO := Lib.hid hO
  have HC := Lib.hid hC
  have l0 := hC.lan.cell 0; have l1 := hC.lan.cell 1; have l2 := hC.lan.cell 2
  have i0 := hC.ins.cell 0; have i1 := hC.ins.cell 1; have i2 := hC.ins.cell 2; have i3 := hC.ins.cell 3
  simp at l0 l1 l2 i0 i1 i2 i3
  obtain ⟨hn1, hn2⟩ := hC.ne
  have hne1 : gO ≠ w.heap.size := by omega
  have hne2 : gO ≠ w.heap.size + 1 := by omega
  have ll := hC.lan.lt
  have il := hC.ins.lt
  have hoa := hC.out a ha
  have hof := hC.fz a
  have hos : (w2.cell? ⟨gO, a, none⟩).isSome = true := by rw [hoa]; rfl
  have HV := Lib.hid (fun W => value_at 2 (by omega) 103 rfl W)
  have HM := Lib.hid (fun (W : World) (hW : Kept w2 W) => pMoved_any W t pc 2 a b c (rg rs b) g off cap hb (by have := hW.size; omega) (by rw [hW.cell (p := ⟨g, off + b, none⟩) (by show g < w2.heap.size; omega)]; exact HC.out.reg b hb))
  have hk0 : Kept w2 w2 := Below.refl _ _
  generalize (rg rs b) = u at *
  have hz0 := hk0.size
  clear HRA HCL o2 b2 hO hC
  go_wp2_with fail
  go_region_held3 (fun w' => (w'.cell? ⟨w.heap.size, 0, none⟩ = some (.int .i64 t) ∧ w'.cell? ⟨w.heap.size, 1, none⟩ = some (.int .i64 pc) ∧ w'.cell? ⟨w.heap.size, 2, none⟩ = some (.slice (some ⟨g, off, none⟩) 4 cap)) ∧ (w'.cell? ⟨w.heap.size + 1, 0, none⟩ = some (.int .i64 2) ∧ w'.cell? ⟨w.heap.size + 1, 1, none⟩ = some (.int .i64 (a : Int)) ∧ w'.cell? ⟨w.heap.size + 1, 2, none⟩ = some (.int .i64 (b : Int)) ∧ w'.cell? ⟨w.heap.size + 1, 3, none⟩ = some (.int .i64 c))) (first | go_keep | ((repeat' apply And.intro) <;> (first | (rw [hb1.cell (by simp; omega)]; simp [*]) | go_keep))) ((first
    | (go_at_call 86; refine (HV.out _).mono ?_; rintro e w3 ⟨rfl, hb1⟩; replace hk0 : Kept w2 w3 := (by first | exact Kept.call hk0 hb1 | exact Kept.call (Kept.drew hk0) hb1); have hz0 := hk0.size)
    | (go_at_call 103; refine (HM.out _ (by first | exact hk0 | exact Kept.drew hk0)).mono ?_; rintro e w4 ⟨rfl, hb1⟩; replace hk0 : Kept w2 w4 := (by first | exact Kept.call hk0 hb1 | exact Kept.call (Kept.drew hk0) hb1); have hz0 := hk0.size; have hoa : w4.cell? ⟨gO, a, none⟩ = w2.cell? ⟨gO, a, none⟩ := hk0.cell (p := ⟨gO, a, none⟩) hn2; have hof : w4.frozen? ⟨gO, a, none⟩ = false := (by rw [hk0.frozen (p := ⟨gO, a, none⟩) hn2]; exact HC.out.fz a))))
  go_wp2_with fail
  go_ret
  first | exact row_setD (HO.out.below hk0) (HC.out.bel.trans (hk0.mono (by omega))) _ _ | exact row_set (HO.out.below hk0) (HC.out.bel.trans (hk0.mono (by omega))) _ _

set_option maxRecDepth 100000 in
set_option maxHeartbeats 2000000 in
theorem pRegs3_any (B : Nat) (w : World) (t pc : Int) (a b c : Nat) (rs : List Int) (g off cap : Nat) (hl : rs.length = 4) (ha : a < 4) (hb : b < 4) (hc : c < 4) (h : Nums B w (some ⟨g, off, none⟩) rs) (hB : B ≤ w.heap.size) :
    Calls Try.prog 55 #[.agg #[.int .i64 t, .int .i64 pc, .slice (some ⟨g, off, none⟩) 4 cap], .agg #[.int .i64 3, .int .i64 a, .int .i64 b, .int .i64 c]] w (RowSaid (rs.set a (addW (rg rs b) (rg rs c))) w) := by
  have hb0 := below2 w (.cells #[.int .i64 t, .int .i64 pc, .slice (some ⟨g, off, none⟩) 4 cap] 27) (.cells #[.int .i64 3, .int .i64 a, .int .i64 b, .int .i64 c] 33)
  have HCL := pClone_any B _ (some ⟨g, off, none⟩) rs cap (by omega) (h.kept (hb0.mono hB))
  rw [hl] at HCL
  replace HCL := Lib.hid HCL
  have HRA := Lib.hid (fun (w2 : World) (v : Value) => @laid B w w2 t pc 3 a b c rs g off cap v hl h hB)
  obtain ⟨g', off', e', hgB, _⟩ := h.2 0 (by omega)
  have hgg : g < w.heap.size := by cases e'; omega
  clear e' hgB h hb0
  have a0 : (0 : Int) ≤ (a : Int) := Int.natCast_nonneg _
  have a1 : (a : Int) < 4 := by omega
  go_enter Try.func55, Try.ntmps55
  go_wp2_with fail
  refine HCL.out.mono ?_
  rintro e w2 ⟨v, rfl, o2, b2⟩
  obtain ⟨gO, cO, rfl, hO, hC⟩ := HRA.out w2 v o2 b2
  have HO := Lib.hid hO
  have HC := Lib.hid hC
  have l0 := hC.lan.cell 0; have l1 := hC.lan.cell 1; have l2 := hC.lan.cell 2
  have i0 := hC.ins.cell 0; have i1 := hC.ins.cell 1; have i2 := hC.ins.cell 2; have i3 := hC.ins.cell 3
  simp at l0 l1 l2 i0 i1 i2 i3
  obtain ⟨hn1, hn2⟩ := hC.ne
  have hne1 : gO ≠ w.heap.size := by omega
  have hne2 : gO ≠ w.heap.size + 1 := by omega
  have ll := hC.lan.lt
  have il := hC.ins.lt
  have hoa := hC.out a ha
  have hof := hC.fz a
  have hos : (w2.cell? ⟨gO, a, none⟩).isSome = true := by rw [hoa]; rfl
  have HV := Lib.hid (fun W => value_at 3 (by omega) 104 rfl W)
  have HM := Lib.hid (fun (W : World) (hW : Kept w2 W) => pSum_any W t pc 3 a b c (rg rs b) (rg rs c) g off cap hb hc (by have := hW.size; omega) (by rw [hW.cell (p := ⟨g, off + b, none⟩) (by show g < w2.heap.size; omega)]; exact HC.out.reg b hb) (by rw [hW.cell (p := ⟨g, off + c, none⟩) (by show g < w2.heap.size; omega)]; exact HC.out.reg c hc))
  have hk0 : Kept w2 w2 := Below.refl _ _
  generalize (addW (rg rs b) (rg rs c)) = u at *
  have hz0 := hk0.size
  clear HRA HCL o2 b2 hO hC
  go_wp2_with fail
  go_region_held3 (fun w' => (w'.cell? ⟨w.heap.size, 0, none⟩ = some (.int .i64 t) ∧ w'.cell? ⟨w.heap.size, 1, none⟩ = some (.int .i64 pc) ∧ w'.cell? ⟨w.heap.size, 2, none⟩ = some (.slice (some ⟨g, off, none⟩) 4 cap)) ∧ (w'.cell? ⟨w.heap.size + 1, 0, none⟩ = some (.int .i64 3) ∧ w'.cell? ⟨w.heap.size + 1, 1, none⟩ = some (.int .i64 (a : Int)) ∧ w'.cell? ⟨w.heap.size + 1, 2, none⟩ = some (.int .i64 (b : Int)) ∧ w'.cell? ⟨w.heap.size + 1, 3, none⟩ = some (.int .i64 (c : Int)))) (first | go_keep | ((repeat' apply And.intro) <;> (first | (rw [hb1.cell (by simp; omega)]; simp [*]) | go_keep))) ((first
    | (go_at_call 86; refine (HV.out _).mono ?_; rintro e w3 ⟨rfl, hb1⟩; replace hk0 : Kept w2 w3 := (by first | exact Kept.call hk0 hb1 | exact Kept.call (Kept.drew hk0) hb1); have hz0 := hk0.size)
    | (go_at_call 104; refine (HM.out _ (by first | exact hk0 | exact Kept.drew hk0)).mono ?_; rintro e w4 ⟨rfl, hb1⟩; replace hk0 : Kept w2 w4 := (by first | exact Kept.call hk0 hb1 | exact Kept.call (Kept.drew hk0) hb1); have hz0 := hk0.size; have hoa : w4.cell? ⟨gO, a, none⟩ = w2.cell? ⟨gO, a, none⟩ := hk0.cell (p := ⟨gO, a, none⟩) hn2; have hof : w4.frozen? ⟨gO, a, none⟩ = false := (by rw [hk0.frozen (p := ⟨gO, a, none⟩) hn2]; exact HC.out.fz a))))
  go_wp2_with fail
  go_ret
  first | exact row_setD (HO.out.below hk0) (HC.out.bel.trans (hk0.mono (by omega))) _ _ | exact row_set (HO.out.below hk0) (HC.out.bel.trans (hk0.mono (by omega))) _ _

set_option maxRecDepth 100000 in
set_option maxHeartbeats 2000000 in
theorem pRegs4_any (B : Nat) (w : World) (t pc : Int) (a b c : Nat) (rs : List Int) (g off cap : Nat) (hl : rs.length = 4) (ha : a < 4) (hb : b < 4) (hc : c < 4) (h : Nums B w (some ⟨g, off, none⟩) rs) (hB : B ≤ w.heap.size) :
    Calls Try.prog 55 #[.agg #[.int .i64 t, .int .i64 pc, .slice (some ⟨g, off, none⟩) 4 cap], .agg #[.int .i64 4, .int .i64 a, .int .i64 b, .int .i64 c]] w (RowSaid (rs.set a (subW (rg rs b) (rg rs c))) w) := by
  have hb0 := below2 w (.cells #[.int .i64 t, .int .i64 pc, .slice (some ⟨g, off, none⟩) 4 cap] 27) (.cells #[.int .i64 4, .int .i64 a, .int .i64 b, .int .i64 c] 33)
  have HCL := pClone_any B _ (some ⟨g, off, none⟩) rs cap (by omega) (h.kept (hb0.mono hB))
  rw [hl] at HCL
  replace HCL := Lib.hid HCL
  have HRA := Lib.hid (fun (w2 : World) (v : Value) => @laid B w w2 t pc 4 a b c rs g off cap v hl h hB)
  obtain ⟨g', off', e', hgB, _⟩ := h.2 0 (by omega)
  have hgg : g < w.heap.size := by cases e'; omega
  clear e' hgB h hb0
  have a0 : (0 : Int) ≤ (a : Int) := Int.natCast_nonneg _
  have a1 : (a : Int) < 4 := by omega
  go_enter Try.func55, Try.ntmps55
  go_wp2_with fail
  refine HCL.out.mono ?_
  rintro e w2 ⟨v, rfl, o2, b2⟩
  obtain ⟨gO, cO, rfl, hO, hC⟩ := HRA.out w2 v o2 b2
  have HO := Lib.hid hO
  have HC := Lib.hid hC
  have l0 := hC.lan.cell 0; have l1 := hC.lan.cell 1; have l2 := hC.lan.cell 2
  have i0 := hC.ins.cell 0; have i1 := hC.ins.cell 1; have i2 := hC.ins.cell 2; have i3 := hC.ins.cell 3
  simp at l0 l1 l2 i0 i1 i2 i3
  obtain ⟨hn1, hn2⟩ := hC.ne
  have hne1 : gO ≠ w.heap.size := by omega
  have hne2 : gO ≠ w.heap.size + 1 := by omega
  have ll := hC.lan.lt
  have il := hC.ins.lt
  have hoa := hC.out a ha
  have hof := hC.fz a
  have hos : (w2.cell? ⟨gO, a, none⟩).isSome = true := by rw [hoa]; rfl
  have HV := Lib.hid (fun W => value_at 4 (by omega) 105 rfl W)
  have HM := Lib.hid (fun (W : World) (hW : Kept w2 W) => pDifference_any W t pc 4 a b c (rg rs b) (rg rs c) g off cap hb hc (by have := hW.size; omega) (by rw [hW.cell (p := ⟨g, off + b, none⟩) (by show g < w2.heap.size; omega)]; exact HC.out.reg b hb) (by rw [hW.cell (p := ⟨g, off + c, none⟩) (by show g < w2.heap.size; omega)]; exact HC.out.reg c hc))
  have hk0 : Kept w2 w2 := Below.refl _ _
  generalize (subW (rg rs b) (rg rs c)) = u at *
  have hz0 := hk0.size
  clear HRA HCL o2 b2 hO hC
  go_wp2_with fail
  go_region_held3 (fun w' => (w'.cell? ⟨w.heap.size, 0, none⟩ = some (.int .i64 t) ∧ w'.cell? ⟨w.heap.size, 1, none⟩ = some (.int .i64 pc) ∧ w'.cell? ⟨w.heap.size, 2, none⟩ = some (.slice (some ⟨g, off, none⟩) 4 cap)) ∧ (w'.cell? ⟨w.heap.size + 1, 0, none⟩ = some (.int .i64 4) ∧ w'.cell? ⟨w.heap.size + 1, 1, none⟩ = some (.int .i64 (a : Int)) ∧ w'.cell? ⟨w.heap.size + 1, 2, none⟩ = some (.int .i64 (b : Int)) ∧ w'.cell? ⟨w.heap.size + 1, 3, none⟩ = some (.int .i64 (c : Int)))) (first | go_keep | ((repeat' apply And.intro) <;> (first | (rw [hb1.cell (by simp; omega)]; simp [*]) | go_keep))) ((first
    | (go_at_call 86; refine (HV.out _).mono ?_; rintro e w3 ⟨rfl, hb1⟩; replace hk0 : Kept w2 w3 := (by first | exact Kept.call hk0 hb1 | exact Kept.call (Kept.drew hk0) hb1); have hz0 := hk0.size)
    | (go_at_call 105; refine (HM.out _ (by first | exact hk0 | exact Kept.drew hk0)).mono ?_; rintro e w4 ⟨rfl, hb1⟩; replace hk0 : Kept w2 w4 := (by first | exact Kept.call hk0 hb1 | exact Kept.call (Kept.drew hk0) hb1); have hz0 := hk0.size; have hoa : w4.cell? ⟨gO, a, none⟩ = w2.cell? ⟨gO, a, none⟩ := hk0.cell (p := ⟨gO, a, none⟩) hn2; have hof : w4.frozen? ⟨gO, a, none⟩ = false := (by rw [hk0.frozen (p := ⟨gO, a, none⟩) hn2]; exact HC.out.fz a))))
  go_wp2_with fail
  go_ret
  first | exact row_setD (HO.out.below hk0) (HC.out.bel.trans (hk0.mono (by omega))) _ _ | exact row_set (HO.out.below hk0) (HC.out.bel.trans (hk0.mono (by omega))) _ _

set_option maxRecDepth 100000 in
set_option maxHeartbeats 2000000 in
theorem pRegs5_any (B : Nat) (w : World) (t pc : Int) (a b c : Nat) (rs : List Int) (g off cap : Nat) (hl : rs.length = 4) (ha : a < 4) (hb : b < 4) (hc : c < 4) (h : Nums B w (some ⟨g, off, none⟩) rs) (hB : B ≤ w.heap.size) :
    Calls Try.prog 55 #[.agg #[.int .i64 t, .int .i64 pc, .slice (some ⟨g, off, none⟩) 4 cap], .agg #[.int .i64 5, .int .i64 a, .int .i64 b, .int .i64 c]] w (RowSaid (rs.set a (mulW (rg rs b) (rg rs c))) w) := by
  have hb0 := below2 w (.cells #[.int .i64 t, .int .i64 pc, .slice (some ⟨g, off, none⟩) 4 cap] 27) (.cells #[.int .i64 5, .int .i64 a, .int .i64 b, .int .i64 c] 33)
  have HCL := pClone_any B _ (some ⟨g, off, none⟩) rs cap (by omega) (h.kept (hb0.mono hB))
  rw [hl] at HCL
  replace HCL := Lib.hid HCL
  have HRA := Lib.hid (fun (w2 : World) (v : Value) => @laid B w w2 t pc 5 a b c rs g off cap v hl h hB)
  obtain ⟨g', off', e', hgB, _⟩ := h.2 0 (by omega)
  have hgg : g < w.heap.size := by cases e'; omega
  clear e' hgB h hb0
  have a0 : (0 : Int) ≤ (a : Int) := Int.natCast_nonneg _
  have a1 : (a : Int) < 4 := by omega
  go_enter Try.func55, Try.ntmps55
  go_wp2_with fail
  refine HCL.out.mono ?_
  rintro e w2 ⟨v, rfl, o2, b2⟩
  obtain ⟨gO, cO, rfl, hO, hC⟩ := HRA.out w2 v o2 b2
  have HO := Lib.hid hO
  have HC := Lib.hid hC
  have l0 := hC.lan.cell 0; have l1 := hC.lan.cell 1; have l2 := hC.lan.cell 2
  have i0 := hC.ins.cell 0; have i1 := hC.ins.cell 1; have i2 := hC.ins.cell 2; have i3 := hC.ins.cell 3
  simp at l0 l1 l2 i0 i1 i2 i3
  obtain ⟨hn1, hn2⟩ := hC.ne
  have hne1 : gO ≠ w.heap.size := by omega
  have hne2 : gO ≠ w.heap.size + 1 := by omega
  have ll := hC.lan.lt
  have il := hC.ins.lt
  have hoa := hC.out a ha
  have hof := hC.fz a
  have hos : (w2.cell? ⟨gO, a, none⟩).isSome = true := by rw [hoa]; rfl
  have HV := Lib.hid (fun W => value_at 5 (by omega) 106 rfl W)
  have HM := Lib.hid (fun (W : World) (hW : Kept w2 W) => pProduct_any W t pc 5 a b c (rg rs b) (rg rs c) g off cap hb hc (by have := hW.size; omega) (by rw [hW.cell (p := ⟨g, off + b, none⟩) (by show g < w2.heap.size; omega)]; exact HC.out.reg b hb) (by rw [hW.cell (p := ⟨g, off + c, none⟩) (by show g < w2.heap.size; omega)]; exact HC.out.reg c hc))
  have hk0 : Kept w2 w2 := Below.refl _ _
  generalize (mulW (rg rs b) (rg rs c)) = u at *
  have hz0 := hk0.size
  clear HRA HCL o2 b2 hO hC
  go_wp2_with fail
  go_region_held3 (fun w' => (w'.cell? ⟨w.heap.size, 0, none⟩ = some (.int .i64 t) ∧ w'.cell? ⟨w.heap.size, 1, none⟩ = some (.int .i64 pc) ∧ w'.cell? ⟨w.heap.size, 2, none⟩ = some (.slice (some ⟨g, off, none⟩) 4 cap)) ∧ (w'.cell? ⟨w.heap.size + 1, 0, none⟩ = some (.int .i64 5) ∧ w'.cell? ⟨w.heap.size + 1, 1, none⟩ = some (.int .i64 (a : Int)) ∧ w'.cell? ⟨w.heap.size + 1, 2, none⟩ = some (.int .i64 (b : Int)) ∧ w'.cell? ⟨w.heap.size + 1, 3, none⟩ = some (.int .i64 (c : Int)))) (first | go_keep | ((repeat' apply And.intro) <;> (first | (rw [hb1.cell (by simp; omega)]; simp [*]) | go_keep))) ((first
    | (go_at_call 86; refine (HV.out _).mono ?_; rintro e w3 ⟨rfl, hb1⟩; replace hk0 : Kept w2 w3 := (by first | exact Kept.call hk0 hb1 | exact Kept.call (Kept.drew hk0) hb1); have hz0 := hk0.size)
    | (go_at_call 106; refine (HM.out _ (by first | exact hk0 | exact Kept.drew hk0)).mono ?_; rintro e w4 ⟨rfl, hb1⟩; replace hk0 : Kept w2 w4 := (by first | exact Kept.call hk0 hb1 | exact Kept.call (Kept.drew hk0) hb1); have hz0 := hk0.size; have hoa : w4.cell? ⟨gO, a, none⟩ = w2.cell? ⟨gO, a, none⟩ := hk0.cell (p := ⟨gO, a, none⟩) hn2; have hof : w4.frozen? ⟨gO, a, none⟩ = false := (by rw [hk0.frozen (p := ⟨gO, a, none⟩) hn2]; exact HC.out.fz a))))
  go_wp2_with fail
  go_ret
  first | exact row_setD (HO.out.below hk0) (HC.out.bel.trans (hk0.mono (by omega))) _ _ | exact row_set (HO.out.below hk0) (HC.out.bel.trans (hk0.mono (by omega))) _ _

set_option maxRecDepth 100000 in
set_option maxHeartbeats 2000000 in
theorem pRegs6_any (B : Nat) (w : World) (t pc : Int) (a b c : Nat) (rs : List Int) (g off cap : Nat) (hl : rs.length = 4) (ha : a < 4) (hb : b < 4) (hc : c < 4) (h : Nums B w (some ⟨g, off, none⟩) rs) (hB : B ≤ w.heap.size) :
    Calls Try.prog 55 #[.agg #[.int .i64 t, .int .i64 pc, .slice (some ⟨g, off, none⟩) 4 cap], .agg #[.int .i64 6, .int .i64 a, .int .i64 b, .int .i64 c]] w (RowSaid (rs.set a (xorW (rg rs b) (rg rs c))) w) := by
  have hb0 := below2 w (.cells #[.int .i64 t, .int .i64 pc, .slice (some ⟨g, off, none⟩) 4 cap] 27) (.cells #[.int .i64 6, .int .i64 a, .int .i64 b, .int .i64 c] 33)
  have HCL := pClone_any B _ (some ⟨g, off, none⟩) rs cap (by omega) (h.kept (hb0.mono hB))
  rw [hl] at HCL
  replace HCL := Lib.hid HCL
  have HRA := Lib.hid (fun (w2 : World) (v : Value) => @laid B w w2 t pc 6 a b c rs g off cap v hl h hB)
  obtain ⟨g', off', e', hgB, _⟩ := h.2 0 (by omega)
  have hgg : g < w.heap.size := by cases e'; omega
  clear e' hgB h hb0
  have a0 : (0 : Int) ≤ (a : Int) := Int.natCast_nonneg _
  have a1 : (a : Int) < 4 := by omega
  go_enter Try.func55, Try.ntmps55
  go_wp2_with fail
  refine HCL.out.mono ?_
  rintro e w2 ⟨v, rfl, o2, b2⟩
  obtain ⟨gO, cO, rfl, hO, hC⟩ := HRA.out w2 v o2 b2
  have HO := Lib.hid hO
  have HC := Lib.hid hC
  have l0 := hC.lan.cell 0; have l1 := hC.lan.cell 1; have l2 := hC.lan.cell 2
  have i0 := hC.ins.cell 0; have i1 := hC.ins.cell 1; have i2 := hC.ins.cell 2; have i3 := hC.ins.cell 3
  simp at l0 l1 l2 i0 i1 i2 i3
  obtain ⟨hn1, hn2⟩ := hC.ne
  have hne1 : gO ≠ w.heap.size := by omega
  have hne2 : gO ≠ w.heap.size + 1 := by omega
  have ll := hC.lan.lt
  have il := hC.ins.lt
  have hoa := hC.out a ha
  have hof := hC.fz a
  have hos : (w2.cell? ⟨gO, a, none⟩).isSome = true := by rw [hoa]; rfl
  have HV := Lib.hid (fun W => value_at 6 (by omega) 107 rfl W)
  have HM := Lib.hid (fun (W : World) (hW : Kept w2 W) => pExclusive_any W t pc 6 a b c (rg rs b) (rg rs c) g off cap hb hc (by have := hW.size; omega) (by rw [hW.cell (p := ⟨g, off + b, none⟩) (by show g < w2.heap.size; omega)]; exact HC.out.reg b hb) (by rw [hW.cell (p := ⟨g, off + c, none⟩) (by show g < w2.heap.size; omega)]; exact HC.out.reg c hc))
  have hk0 : Kept w2 w2 := Below.refl _ _
  generalize (xorW (rg rs b) (rg rs c)) = u at *
  have hz0 := hk0.size
  clear HRA HCL o2 b2 hO hC
  go_wp2_with fail
  go_region_held3 (fun w' => (w'.cell? ⟨w.heap.size, 0, none⟩ = some (.int .i64 t) ∧ w'.cell? ⟨w.heap.size, 1, none⟩ = some (.int .i64 pc) ∧ w'.cell? ⟨w.heap.size, 2, none⟩ = some (.slice (some ⟨g, off, none⟩) 4 cap)) ∧ (w'.cell? ⟨w.heap.size + 1, 0, none⟩ = some (.int .i64 6) ∧ w'.cell? ⟨w.heap.size + 1, 1, none⟩ = some (.int .i64 (a : Int)) ∧ w'.cell? ⟨w.heap.size + 1, 2, none⟩ = some (.int .i64 (b : Int)) ∧ w'.cell? ⟨w.heap.size + 1, 3, none⟩ = some (.int .i64 (c : Int)))) (first | go_keep | ((repeat' apply And.intro) <;> (first | (rw [hb1.cell (by simp; omega)]; simp [*]) | go_keep))) ((first
    | (go_at_call 86; refine (HV.out _).mono ?_; rintro e w3 ⟨rfl, hb1⟩; replace hk0 : Kept w2 w3 := (by first | exact Kept.call hk0 hb1 | exact Kept.call (Kept.drew hk0) hb1); have hz0 := hk0.size)
    | (go_at_call 107; refine (HM.out _ (by first | exact hk0 | exact Kept.drew hk0)).mono ?_; rintro e w4 ⟨rfl, hb1⟩; replace hk0 : Kept w2 w4 := (by first | exact Kept.call hk0 hb1 | exact Kept.call (Kept.drew hk0) hb1); have hz0 := hk0.size; have hoa : w4.cell? ⟨gO, a, none⟩ = w2.cell? ⟨gO, a, none⟩ := hk0.cell (p := ⟨gO, a, none⟩) hn2; have hof : w4.frozen? ⟨gO, a, none⟩ = false := (by rw [hk0.frozen (p := ⟨gO, a, none⟩) hn2]; exact HC.out.fz a))))
  go_wp2_with fail
  go_ret
  first | exact row_setD (HO.out.below hk0) (HC.out.bel.trans (hk0.mono (by omega))) _ _ | exact row_set (HO.out.below hk0) (HC.out.bel.trans (hk0.mono (by omega))) _ _

set_option maxRecDepth 100000 in
set_option maxHeartbeats 2000000 in
theorem pRegs7_any (B : Nat) (w : World) (t pc : Int) (a b c : Nat) (rs : List Int) (g off cap : Nat) (hl : rs.length = 4) (ha : a < 4) (hb : b < 4) (hc : c < 4) (h : Nums B w (some ⟨g, off, none⟩) rs) (hB : B ≤ w.heap.size) :
    Calls Try.prog 55 #[.agg #[.int .i64 t, .int .i64 pc, .slice (some ⟨g, off, none⟩) 4 cap], .agg #[.int .i64 7, .int .i64 a, .int .i64 b, .int .i64 c]] w (RowSaid (rs.set a (lessW (rg rs b) (rg rs c))) w) := by
  have hb0 := below2 w (.cells #[.int .i64 t, .int .i64 pc, .slice (some ⟨g, off, none⟩) 4 cap] 27) (.cells #[.int .i64 7, .int .i64 a, .int .i64 b, .int .i64 c] 33)
  have HCL := pClone_any B _ (some ⟨g, off, none⟩) rs cap (by omega) (h.kept (hb0.mono hB))
  rw [hl] at HCL
  replace HCL := Lib.hid HCL
  have HRA := Lib.hid (fun (w2 : World) (v : Value) => @laid B w w2 t pc 7 a b c rs g off cap v hl h hB)
  obtain ⟨g', off', e', hgB, _⟩ := h.2 0 (by omega)
  have hgg : g < w.heap.size := by cases e'; omega
  clear e' hgB h hb0
  have a0 : (0 : Int) ≤ (a : Int) := Int.natCast_nonneg _
  have a1 : (a : Int) < 4 := by omega
  go_enter Try.func55, Try.ntmps55
  go_wp2_with fail
  refine HCL.out.mono ?_
  rintro e w2 ⟨v, rfl, o2, b2⟩
  obtain ⟨gO, cO, rfl, hO, hC⟩ := HRA.out w2 v o2 b2
  have HO := Lib.hid hO
  have HC := Lib.hid hC
  have l0 := hC.lan.cell 0; have l1 := hC.lan.cell 1; have l2 := hC.lan.cell 2
  have i0 := hC.ins.cell 0; have i1 := hC.ins.cell 1; have i2 := hC.ins.cell 2; have i3 := hC.ins.cell 3
  simp at l0 l1 l2 i0 i1 i2 i3
  obtain ⟨hn1, hn2⟩ := hC.ne
  have hne1 : gO ≠ w.heap.size := by omega
  have hne2 : gO ≠ w.heap.size + 1 := by omega
  have ll := hC.lan.lt
  have il := hC.ins.lt
  have hoa := hC.out a ha
  have hof := hC.fz a
  have hos : (w2.cell? ⟨gO, a, none⟩).isSome = true := by rw [hoa]; rfl
  have HV := Lib.hid (fun W => value_at 7 (by omega) 108 rfl W)
  have HM := Lib.hid (fun (W : World) (hW : Kept w2 W) => pLessL_any W t pc 7 a b c (rg rs b) (rg rs c) g off cap hb hc (by have := hW.size; omega) (by rw [hW.cell (p := ⟨g, off + b, none⟩) (by show g < w2.heap.size; omega)]; exact HC.out.reg b hb) (by rw [hW.cell (p := ⟨g, off + c, none⟩) (by show g < w2.heap.size; omega)]; exact HC.out.reg c hc))
  have hk0 : Kept w2 w2 := Below.refl _ _
  generalize (lessW (rg rs b) (rg rs c)) = u at *
  have hz0 := hk0.size
  clear HRA HCL o2 b2 hO hC
  go_wp2_with fail
  go_region_held3 (fun w' => (w'.cell? ⟨w.heap.size, 0, none⟩ = some (.int .i64 t) ∧ w'.cell? ⟨w.heap.size, 1, none⟩ = some (.int .i64 pc) ∧ w'.cell? ⟨w.heap.size, 2, none⟩ = some (.slice (some ⟨g, off, none⟩) 4 cap)) ∧ (w'.cell? ⟨w.heap.size + 1, 0, none⟩ = some (.int .i64 7) ∧ w'.cell? ⟨w.heap.size + 1, 1, none⟩ = some (.int .i64 (a : Int)) ∧ w'.cell? ⟨w.heap.size + 1, 2, none⟩ = some (.int .i64 (b : Int)) ∧ w'.cell? ⟨w.heap.size + 1, 3, none⟩ = some (.int .i64 (c : Int)))) (first | go_keep | ((repeat' apply And.intro) <;> (first | (rw [hb1.cell (by simp; omega)]; simp [*]) | go_keep))) ((first
    | (go_at_call 86; refine (HV.out _).mono ?_; rintro e w3 ⟨rfl, hb1⟩; replace hk0 : Kept w2 w3 := (by first | exact Kept.call hk0 hb1 | exact Kept.call (Kept.drew hk0) hb1); have hz0 := hk0.size)
    | (go_at_call 108; refine (HM.out _ (by first | exact hk0 | exact Kept.drew hk0)).mono ?_; rintro e w4 ⟨rfl, hb1⟩; replace hk0 : Kept w2 w4 := (by first | exact Kept.call hk0 hb1 | exact Kept.call (Kept.drew hk0) hb1); have hz0 := hk0.size; have hoa : w4.cell? ⟨gO, a, none⟩ = w2.cell? ⟨gO, a, none⟩ := hk0.cell (p := ⟨gO, a, none⟩) hn2; have hof : w4.frozen? ⟨gO, a, none⟩ = false := (by rw [hk0.frozen (p := ⟨gO, a, none⟩) hn2]; exact HC.out.fz a))))
  go_wp2_with fail
  go_ret
  first | exact row_setD (HO.out.below hk0) (HC.out.bel.trans (hk0.mono (by omega))) _ _ | exact row_set (HO.out.below hk0) (HC.out.bel.trans (hk0.mono (by omega))) _ _

set_option maxRecDepth 100000 in
set_option maxHeartbeats 2000000 in
theorem pRegs8_any (B : Nat) (w : World) (t pc : Int) (a : Nat) (b c : Int) (rs : List Int) (g off cap : Nat) (hl : rs.length = 4) (ha : a < 4) (h : Nums B w (some ⟨g, off, none⟩) rs) (hB : B ≤ w.heap.size) :
    Calls Try.prog 55 #[.agg #[.int .i64 t, .int .i64 pc, .slice (some ⟨g, off, none⟩) 4 cap], .agg #[.int .i64 8, .int .i64 a, .int .i64 b, .int .i64 c]] w (RowSaid (rs.set a t) w) := by
  have hb0 := below2 w (.cells #[.int .i64 t, .int .i64 pc, .slice (some ⟨g, off, none⟩) 4 cap] 27) (.cells #[.int .i64 8, .int .i64 a, .int .i64 b, .int .i64 c] 33)
  have HCL := pClone_any B _ (some ⟨g, off, none⟩) rs cap (by omega) (h.kept (hb0.mono hB))
  rw [hl] at HCL
  replace HCL := Lib.hid HCL
  have HRA := Lib.hid (fun (w2 : World) (v : Value) => @laid B w w2 t pc 8 a b c rs g off cap v hl h hB)
  obtain ⟨g', off', e', hgB, _⟩ := h.2 0 (by omega)
  have hgg : g < w.heap.size := by cases e'; omega
  clear e' hgB h hb0
  have a0 : (0 : Int) ≤ (a : Int) := Int.natCast_nonneg _
  have a1 : (a : Int) < 4 := by omega
  go_enter Try.func55, Try.ntmps55
  go_wp2_with fail
  refine HCL.out.mono ?_
  rintro e w2 ⟨v, rfl, o2, b2⟩
  obtain ⟨gO, cO, rfl, hO, hC⟩ := HRA.out w2 v o2 b2
  have HO := Lib.hid hO
  have HC := Lib.hid hC
  have l0 := hC.lan.cell 0; have l1 := hC.lan.cell 1; have l2 := hC.lan.cell 2
  have i0 := hC.ins.cell 0; have i1 := hC.ins.cell 1; have i2 := hC.ins.cell 2; have i3 := hC.ins.cell 3
  simp at l0 l1 l2 i0 i1 i2 i3
  obtain ⟨hn1, hn2⟩ := hC.ne
  have hne1 : gO ≠ w.heap.size := by omega
  have hne2 : gO ≠ w.heap.size + 1 := by omega
  have ll := hC.lan.lt
  have il := hC.ins.lt
  have hoa := hC.out a ha
  have hof := hC.fz a
  have hos : (w2.cell? ⟨gO, a, none⟩).isSome = true := by rw [hoa]; rfl
  have HV := Lib.hid (fun W => value_at 8 (by omega) 109 rfl W)
  have HM := Lib.hid (fun (W : World) (hW : Kept w2 W) => pNumber_any W t pc 8 a b c g off cap)
  have hk0 : Kept w2 w2 := Below.refl _ _
  have hz0 := hk0.size
  clear HRA HCL o2 b2 hO hC
  go_wp2_with fail
  go_region_held3 (fun w' => (w'.cell? ⟨w.heap.size, 0, none⟩ = some (.int .i64 t) ∧ w'.cell? ⟨w.heap.size, 1, none⟩ = some (.int .i64 pc) ∧ w'.cell? ⟨w.heap.size, 2, none⟩ = some (.slice (some ⟨g, off, none⟩) 4 cap)) ∧ (w'.cell? ⟨w.heap.size + 1, 0, none⟩ = some (.int .i64 8) ∧ w'.cell? ⟨w.heap.size + 1, 1, none⟩ = some (.int .i64 (a : Int)) ∧ w'.cell? ⟨w.heap.size + 1, 2, none⟩ = some (.int .i64 b) ∧ w'.cell? ⟨w.heap.size + 1, 3, none⟩ = some (.int .i64 c))) (first | go_keep | ((repeat' apply And.intro) <;> (first | (rw [hb1.cell (by simp; omega)]; simp [*]) | go_keep))) ((first
    | (go_at_call 86; refine (HV.out _).mono ?_; rintro e w3 ⟨rfl, hb1⟩; replace hk0 : Kept w2 w3 := (by first | exact Kept.call hk0 hb1 | exact Kept.call (Kept.drew hk0) hb1); have hz0 := hk0.size)
    | (go_at_call 109; refine (HM.out _ (by first | exact hk0 | exact Kept.drew hk0)).mono ?_; rintro e w4 ⟨rfl, hb1⟩; replace hk0 : Kept w2 w4 := (by first | exact Kept.call hk0 hb1 | exact Kept.call (Kept.drew hk0) hb1); have hz0 := hk0.size; have hoa : w4.cell? ⟨gO, a, none⟩ = w2.cell? ⟨gO, a, none⟩ := hk0.cell (p := ⟨gO, a, none⟩) hn2; have hof : w4.frozen? ⟨gO, a, none⟩ = false := (by rw [hk0.frozen (p := ⟨gO, a, none⟩) hn2]; exact HC.out.fz a))))
  go_wp2_with fail
  go_ret
  first | exact row_setD (HO.out.below hk0) (HC.out.bel.trans (hk0.mono (by omega))) _ _ | exact row_set (HO.out.below hk0) (HC.out.bel.trans (hk0.mono (by omega))) _ _

set_option maxRecDepth 100000 in
set_option maxHeartbeats 2000000 in
theorem pRegs9yes_any (B : Nat) (w : World) (t pc : Int) (a b c : Nat) (rs : List Int) (g off cap : Nat) (hl : rs.length = 4) (ha : a < 4) (hb : b < 4) (hc : c < 4) (hz : ¬ rg rs c = 0) (h : Nums B w (some ⟨g, off, none⟩) rs) (hB : B ≤ w.heap.size) :
    Calls Try.prog 55 #[.agg #[.int .i64 t, .int .i64 pc, .slice (some ⟨g, off, none⟩) 4 cap], .agg #[.int .i64 9, .int .i64 a, .int .i64 b, .int .i64 c]] w (RowSaid (rs.set a (rg rs b)) w) := by
  have HZ := Lib.hid hz
  have hb0 := below2 w (.cells #[.int .i64 t, .int .i64 pc, .slice (some ⟨g, off, none⟩) 4 cap] 27) (.cells #[.int .i64 9, .int .i64 a, .int .i64 b, .int .i64 c] 33)
  have HCL := pClone_any B _ (some ⟨g, off, none⟩) rs cap (by omega) (h.kept (hb0.mono hB))
  rw [hl] at HCL
  replace HCL := Lib.hid HCL
  have HRA := Lib.hid (fun (w2 : World) (v : Value) => @laid B w w2 t pc 9 a b c rs g off cap v hl h hB)
  obtain ⟨g', off', e', hgB, _⟩ := h.2 0 (by omega)
  have hgg : g < w.heap.size := by cases e'; omega
  clear e' hgB h hb0
  have a0 : (0 : Int) ≤ (a : Int) := Int.natCast_nonneg _
  have a1 : (a : Int) < 4 := by omega
  go_enter Try.func55, Try.ntmps55
  go_wp2_with fail
  refine HCL.out.mono ?_
  rintro e w2 ⟨v, rfl, o2, b2⟩
  obtain ⟨gO, cO, rfl, hO, hC⟩ := HRA.out w2 v o2 b2
  have HO := Lib.hid hO
  have HC := Lib.hid hC
  have l0 := hC.lan.cell 0; have l1 := hC.lan.cell 1; have l2 := hC.lan.cell 2
  have i0 := hC.ins.cell 0; have i1 := hC.ins.cell 1; have i2 := hC.ins.cell 2; have i3 := hC.ins.cell 3
  simp at l0 l1 l2 i0 i1 i2 i3
  obtain ⟨hn1, hn2⟩ := hC.ne
  have hne1 : gO ≠ w.heap.size := by omega
  have hne2 : gO ≠ w.heap.size + 1 := by omega
  have ll := hC.lan.lt
  have il := hC.ins.lt
  have hoa := hC.out a ha
  have hof := hC.fz a
  have hos : (w2.cell? ⟨gO, a, none⟩).isSome = true := by rw [hoa]; rfl
  have HV := Lib.hid (fun W => value_at 9 (by omega) 110 rfl W)
  have HM := Lib.hid (fun (W : World) (hW : Kept w2 W) => pPicked_yes W t pc 9 a b c (rg rs b) (rg rs c) g off cap hb hc (by have := hW.size; omega) (by rw [hW.cell (p := ⟨g, off + b, none⟩) (by show g < w2.heap.size; omega)]; exact HC.out.reg b hb) (by rw [hW.cell (p := ⟨g, off + c, none⟩) (by show g < w2.heap.size; omega)]; exact HC.out.reg c hc) HZ.out)
  have hk0 : Kept w2 w2 := Below.refl _ _
  generalize (rg rs b) = u at *
  have hz0 := hk0.size
  clear HRA HCL o2 b2 hO hC
  go_wp2_with fail
  go_region_held3 (fun w' => (w'.cell? ⟨w.heap.size, 0, none⟩ = some (.int .i64 t) ∧ w'.cell? ⟨w.heap.size, 1, none⟩ = some (.int .i64 pc) ∧ w'.cell? ⟨w.heap.size, 2, none⟩ = some (.slice (some ⟨g, off, none⟩) 4 cap)) ∧ (w'.cell? ⟨w.heap.size + 1, 0, none⟩ = some (.int .i64 9) ∧ w'.cell? ⟨w.heap.size + 1, 1, none⟩ = some (.int .i64 (a : Int)) ∧ w'.cell? ⟨w.heap.size + 1, 2, none⟩ = some (.int .i64 (b : Int)) ∧ w'.cell? ⟨w.heap.size + 1, 3, none⟩ = some (.int .i64 (c : Int)))) (first | go_keep | ((repeat' apply And.intro) <;> (first | (rw [hb1.cell (by simp; omega)]; simp [*]) | go_keep))) ((first
    | (go_at_call 86; refine (HV.out _).mono ?_; rintro e w3 ⟨rfl, hb1⟩; replace hk0 : Kept w2 w3 := (by first | exact Kept.call hk0 hb1 | exact Kept.call (Kept.drew hk0) hb1); have hz0 := hk0.size)
    | (go_at_call 110; refine (HM.out _ (by first | exact hk0 | exact Kept.drew hk0)).mono ?_; rintro e w4 ⟨rfl, hb1⟩; replace hk0 : Kept w2 w4 := (by first | exact Kept.call hk0 hb1 | exact Kept.call (Kept.drew hk0) hb1); have hz0 := hk0.size; have hoa : w4.cell? ⟨gO, a, none⟩ = w2.cell? ⟨gO, a, none⟩ := hk0.cell (p := ⟨gO, a, none⟩) hn2; have hof : w4.frozen? ⟨gO, a, none⟩ = false := (by rw [hk0.frozen (p := ⟨gO, a, none⟩) hn2]; exact HC.out.fz a))))
  go_wp2_with fail
  go_ret
  first | exact row_setD (HO.out.below hk0) (HC.out.bel.trans (hk0.mono (by omega))) _ _ | exact row_set (HO.out.below hk0) (HC.out.bel.trans (hk0.mono (by omega))) _ _

set_option maxRecDepth 100000 in
set_option maxHeartbeats 2000000 in
theorem pRegs9no_any (B : Nat) (w : World) (t pc : Int) (a b c : Nat) (rs : List Int) (g off cap : Nat) (hl : rs.length = 4) (ha : a < 4) (_hb : b < 4) (hc : c < 4) (hz : rg rs c = 0) (h : Nums B w (some ⟨g, off, none⟩) rs) (hB : B ≤ w.heap.size) :
    Calls Try.prog 55 #[.agg #[.int .i64 t, .int .i64 pc, .slice (some ⟨g, off, none⟩) 4 cap], .agg #[.int .i64 9, .int .i64 a, .int .i64 b, .int .i64 c]] w (RowSaid (rs.set a (rg rs a)) w) := by
  have HZ := Lib.hid hz
  have hb0 := below2 w (.cells #[.int .i64 t, .int .i64 pc, .slice (some ⟨g, off, none⟩) 4 cap] 27) (.cells #[.int .i64 9, .int .i64 a, .int .i64 b, .int .i64 c] 33)
  have HCL := pClone_any B _ (some ⟨g, off, none⟩) rs cap (by omega) (h.kept (hb0.mono hB))
  rw [hl] at HCL
  replace HCL := Lib.hid HCL
  have HRA := Lib.hid (fun (w2 : World) (v : Value) => @laid B w w2 t pc 9 a b c rs g off cap v hl h hB)
  obtain ⟨g', off', e', hgB, _⟩ := h.2 0 (by omega)
  have hgg : g < w.heap.size := by cases e'; omega
  clear e' hgB h hb0
  have a0 : (0 : Int) ≤ (a : Int) := Int.natCast_nonneg _
  have a1 : (a : Int) < 4 := by omega
  go_enter Try.func55, Try.ntmps55
  go_wp2_with fail
  refine HCL.out.mono ?_
  rintro e w2 ⟨v, rfl, o2, b2⟩
  obtain ⟨gO, cO, rfl, hO, hC⟩ := HRA.out w2 v o2 b2
  have HO := Lib.hid hO
  have HC := Lib.hid hC
  have l0 := hC.lan.cell 0; have l1 := hC.lan.cell 1; have l2 := hC.lan.cell 2
  have i0 := hC.ins.cell 0; have i1 := hC.ins.cell 1; have i2 := hC.ins.cell 2; have i3 := hC.ins.cell 3
  simp at l0 l1 l2 i0 i1 i2 i3
  obtain ⟨hn1, hn2⟩ := hC.ne
  have hne1 : gO ≠ w.heap.size := by omega
  have hne2 : gO ≠ w.heap.size + 1 := by omega
  have ll := hC.lan.lt
  have il := hC.ins.lt
  have hoa := hC.out a ha
  have hof := hC.fz a
  have hos : (w2.cell? ⟨gO, a, none⟩).isSome = true := by rw [hoa]; rfl
  have HV := Lib.hid (fun W => value_at 9 (by omega) 110 rfl W)
  have HM := Lib.hid (fun (W : World) (hW : Kept w2 W) => pPicked_no W t pc 9 a b c (rg rs a) g off cap ha hc (by have := hW.size; omega) (by rw [hW.cell (p := ⟨g, off + a, none⟩) (by show g < w2.heap.size; omega)]; exact HC.out.reg a ha) (by rw [hW.cell (p := ⟨g, off + c, none⟩) (by show g < w2.heap.size; omega)]; rw [HC.out.reg c hc, HZ.out]))
  have hk0 : Kept w2 w2 := Below.refl _ _
  generalize (rg rs a) = u at *
  have hz0 := hk0.size
  clear HRA HCL o2 b2 hO hC
  go_wp2_with fail
  go_region_held3 (fun w' => (w'.cell? ⟨w.heap.size, 0, none⟩ = some (.int .i64 t) ∧ w'.cell? ⟨w.heap.size, 1, none⟩ = some (.int .i64 pc) ∧ w'.cell? ⟨w.heap.size, 2, none⟩ = some (.slice (some ⟨g, off, none⟩) 4 cap)) ∧ (w'.cell? ⟨w.heap.size + 1, 0, none⟩ = some (.int .i64 9) ∧ w'.cell? ⟨w.heap.size + 1, 1, none⟩ = some (.int .i64 (a : Int)) ∧ w'.cell? ⟨w.heap.size + 1, 2, none⟩ = some (.int .i64 (b : Int)) ∧ w'.cell? ⟨w.heap.size + 1, 3, none⟩ = some (.int .i64 (c : Int)))) (first | go_keep | ((repeat' apply And.intro) <;> (first | (rw [hb1.cell (by simp; omega)]; simp [*]) | go_keep))) ((first
    | (go_at_call 86; refine (HV.out _).mono ?_; rintro e w3 ⟨rfl, hb1⟩; replace hk0 : Kept w2 w3 := (by first | exact Kept.call hk0 hb1 | exact Kept.call (Kept.drew hk0) hb1); have hz0 := hk0.size)
    | (go_at_call 110; refine (HM.out _ (by first | exact hk0 | exact Kept.drew hk0)).mono ?_; rintro e w4 ⟨rfl, hb1⟩; replace hk0 : Kept w2 w4 := (by first | exact Kept.call hk0 hb1 | exact Kept.call (Kept.drew hk0) hb1); have hz0 := hk0.size; have hoa : w4.cell? ⟨gO, a, none⟩ = w2.cell? ⟨gO, a, none⟩ := hk0.cell (p := ⟨gO, a, none⟩) hn2; have hof : w4.frozen? ⟨gO, a, none⟩ = false := (by rw [hk0.frozen (p := ⟨gO, a, none⟩) hn2]; exact HC.out.fz a))))
  go_wp2_with fail
  go_ret
  first | exact row_setD (HO.out.below hk0) (HC.out.bel.trans (hk0.mono (by omega))) _ _ | exact row_set (HO.out.below hk0) (HC.out.bel.trans (hk0.mono (by omega))) _ _

end Go.Proofs.Ytmiopbpahkgmbaa
