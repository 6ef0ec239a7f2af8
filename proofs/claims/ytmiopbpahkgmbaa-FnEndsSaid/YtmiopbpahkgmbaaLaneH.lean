/- Lanes: LaneNew and ApplyIns of both. -/
import Derived.Test.YtmiopbpahkgmbaaLaneP
namespace Go.Proofs.Ytmiopbpahkgmbaa
open Go.RowKit Go

/-- The lane of a thread that has not begun. -/
def newT (t : Int) : Int := if decide (0 ≤ t ∧ t ≤ 23) = true then t else 0
def newR (t : Int) : List Int := if decide (0 ≤ t ∧ t ≤ 23) = true then [0, 0, 0, 0] else []
/-- The registers behind an instruction, none where something is not valid. -/
def appOk (x : I4) (t : Int) (rs : List Int) : Bool := regsOk rs && (insOk x.o x.a x.b x.c 32 && decide (0 ≤ t ∧ t ≤ 23))
def appR (x : I4) (t : Int) (rs : List Int) : List Int := if appOk x t rs = true then applyR x t rs else []

theorem new_laid (w : World) (c0 : Array Value) : Own (w.heap.size + 1) ((w.alloc (.cells c0 27)).alloc (.cells #[.int .i64 0, .int .i64 0, .int .i64 0, .int .i64 0] 3)) (.slice (some ⟨w.heap.size + 1, 0, none⟩) 4 4) [0, 0, 0, 0] :=
  Own.made (n := w.heap.size + 1) (k := 4) (w.alloc (.cells c0 27)) [0, 0, 0, 0] (by simp) (Nat.le_refl _) rfl (by unfold maxLen; simp)

set_option maxRecDepth 100000 in
set_option maxHeartbeats 1000000 in
theorem sLaneNew_any (t : Int) (w : World) : Calls Try.prog 79 #[.int .i64 t] w (LaneSaid (newT t) 0 (newR t) w) := by
  have HI := Lib.hid (sIn_any t 0 23)
  have hmk : ∀ W, (Instr.makeSlice 25 (.int .i64 4) (.int .i64 4)).run Try.prog W = .ok (.slice (some ⟨W.heap.size, 0, none⟩) 4 4) (W.alloc (.cells #[.int .i64 0, .int .i64 0, .int .i64 0, .int .i64 0] 3)) := fun _ => by kernel_rfl
  unfold newT newR
  generalize decide (0 ≤ t ∧ t ≤ 23) = v at *
  cases v with
  | false =>
    rw [if_neg (by decide), if_neg (by decide)]
    go_enter Try.func79, Try.ntmps79
    go_wp2_with fail
    refine (HI.out _).mono ?_
    rintro e w' ⟨rfl, rfl⟩
    go_wp2_with fail
    exact bodyPost_ret (v := .agg #[.int .i64 0, .int .i64 0, .slice none 0 0]) (by simp [results, Try.results79, go_sem]) rfl ⟨none, 0, rfl, Own.nil _ _, below1 _ _⟩
  | true =>
    rw [if_pos rfl, if_pos rfl]
    have HO := Lib.hid (new_laid w #[.int .i64 0, .int .i64 0, .slice none 0 0])
    have HB := Lib.hid (below2 w (.cells #[.int .i64 0, .int .i64 0, .slice none 0 0] 27) (.cells #[.int .i64 0, .int .i64 0, .int .i64 0, .int .i64 0] 3))
    go_enter Try.func79, Try.ntmps79
    go_wp2_with fail
    refine (HI.out _).mono ?_
    rintro e w' ⟨rfl, rfl⟩
    go_wp2_with fail
    first
      | exact bodyPost_ret (v := .agg #[.int .i64 t, .int .i64 0, .slice (some ⟨w.heap.size + 1, 0, none⟩) 4 4]) (by simp [results, Try.results79, go_sem]) rfl ⟨some ⟨w.heap.size + 1, 0, none⟩, 4, rfl, ((new_laid w _).lower (by omega)), below2 _ _ _⟩
      | exact bodyPost_ret (v := .agg #[.int .i64 t, .int .i64 0, .slice (some ⟨w.heap.size + 1, 0, none⟩) 4 4]) (by simp [results, Try.results79, go_sem]) rfl ⟨some ⟨w.heap.size + 1, 0, none⟩, 4, rfl, ((((HO.out.setAway _ _ (by show w.heap.size < w.heap.size + 1; omega)).setAway _ _ (by show w.heap.size < w.heap.size + 1; omega)).setAway _ _ (by show w.heap.size < w.heap.size + 1; omega)).lower (by omega)), ((HB.out.setCell (by show w.heap.size ≤ w.heap.size; omega) _).setCell (by show w.heap.size ≤ w.heap.size; omega) _).setCell (by show w.heap.size ≤ w.heap.size; omega) _⟩

set_option maxRecDepth 100000 in
set_option maxHeartbeats 1000000 in
theorem pLaneNew_any (t : Int) (w : World) : Calls Try.prog 90 #[.int .i64 t] w (LaneSaid (newT t) 0 (newR t) w) := by
  have HI := Lib.hid (pIsThread_any t)
  have hmk : ∀ W, (Instr.makeSlice 25 (.int .i64 4) (.int .i64 4)).run Try.prog W = .ok (.slice (some ⟨W.heap.size, 0, none⟩) 4 4) (W.alloc (.cells #[.int .i64 0, .int .i64 0, .int .i64 0, .int .i64 0] 3)) := fun _ => by kernel_rfl
  unfold newT newR
  generalize decide (0 ≤ t ∧ t ≤ 23) = v at *
  cases v with
  | false =>
    rw [if_neg (by decide), if_neg (by decide)]
    go_enter Try.func90, Try.ntmps90
    go_wp2_with fail
    refine (HI.out _).mono ?_
    rintro e w' ⟨rfl, rfl⟩
    go_wp2_with fail
    exact bodyPost_ret (v := .agg #[.int .i64 0, .int .i64 0, .slice none 0 0]) (by simp [results, Try.results90, go_sem]) rfl ⟨none, 0, rfl, Own.nil _ _, below1 _ _⟩
  | true =>
    rw [if_pos rfl, if_pos rfl]
    have HO := Lib.hid (new_laid w #[.int .i64 0, .int .i64 0, .slice none 0 0])
    have HB := Lib.hid (below2 w (.cells #[.int .i64 0, .int .i64 0, .slice none 0 0] 27) (.cells #[.int .i64 0, .int .i64 0, .int .i64 0, .int .i64 0] 3))
    go_enter Try.func90, Try.ntmps90
    go_wp2_with fail
    refine (HI.out _).mono ?_
    rintro e w' ⟨rfl, rfl⟩
    go_wp2_with fail
    first
      | exact bodyPost_ret (v := .agg #[.int .i64 t, .int .i64 0, .slice (some ⟨w.heap.size + 1, 0, none⟩) 4 4]) (by simp [results, Try.results90, go_sem]) rfl ⟨some ⟨w.heap.size + 1, 0, none⟩, 4, rfl, ((new_laid w _).lower (by omega)), below2 _ _ _⟩
      | exact bodyPost_ret (v := .agg #[.int .i64 t, .int .i64 0, .slice (some ⟨w.heap.size + 1, 0, none⟩) 4 4]) (by simp [results, Try.results90, go_sem]) rfl ⟨some ⟨w.heap.size + 1, 0, none⟩, 4, rfl, ((((HO.out.setAway _ _ (by show w.heap.size < w.heap.size + 1; omega)).setAway _ _ (by show w.heap.size < w.heap.size + 1; omega)).setAway _ _ (by show w.heap.size < w.heap.size + 1; omega)).lower (by omega)), ((HB.out.setCell (by show w.heap.size ≤ w.heap.size; omega) _).setCell (by show w.heap.size ≤ w.heap.size; omega) _).setCell (by show w.heap.size ≤ w.heap.size; omega) _⟩

set_option maxRecDepth 100000 in
set_option maxHeartbeats 2000000 in
theorem pApplyIns_any (B : Nat) (w : World) (x : I4) (t : Int) (ra : Option Addr) (rs : List Int) (rc : Nat) (hl : rs.length ≤ 10000000) (h : Nums B w ra rs) (hB : B ≤ w.heap.size) :
    Calls Try.prog 15 #[.agg #[.int .i64 x.o, .int .i64 x.a, .int .i64 x.b, .int .i64 x.c], .int .i64 t, .slice ra rs.length rc] w (RowSaid (appR x t rs) w) := by
  obtain ⟨o, a, b, c⟩ := x
  have hx := Box.new 33 w #[.int .i64 o, .int .i64 a, .int .i64 b, .int .i64 c]
  obtain ⟨w0, hw0⟩ : ∃ w0, w0 = w.alloc (.cells #[.int .i64 o, .int .i64 a, .int .i64 b, .int .i64 c] 33) := ⟨_, rfl⟩
  have hbw : Below w.heap.size w w0 := by rw [hw0]; exact below1 _ _
  rw [← hw0] at hx
  have hs0 : w.heap.size < w0.heap.size := hx.lt
  have i0 := hx.cell 0; have i1 := hx.cell 1; have i2 := hx.cell 2; have i3 := hx.cell 3
  simp at i0 i1 i2 i3
  have HN := Lib.hid (h.kept (hbw.mono hB))
  have HBW := Lib.hid hbw
  have HX := Lib.hid hx
  have eA : appR ⟨o, a, b, c⟩ t rs = if (regsOk rs && (insOk o a b c 32 && decide (0 ≤ t ∧ t ≤ 23))) = true then applyR ⟨o, a, b, c⟩ t rs else [] := rfl
  rw [eA]
  clear eA
  have HR := Lib.hid (pAreRegs_any B w0 ra rs rc hl HN.out)
  have HI := Lib.hid (fun W => pInsOk_any o a b c 32 W)
  have HT := Lib.hid (pIsThread_any t)
  cases hr : regsOk rs with
  | false =>
    rw [hr] at HR
    rw [Bool.false_and, if_neg (by decide)]
    clear hr h hbw hx
    go_enter Try.func15, Try.ntmps15
    go_upto_region 1 with fail
    rw [← hw0]
    clear hw0
    go_wp2_with fail
    refine HR.out.mono ?_
    rintro e w' ⟨rfl, rfl⟩
    go_wp2_with fail
    go_ret
    exact ⟨_, rfl, Own.nil _ _, HBW.out⟩
  | true =>
    rw [hr] at HR
    rw [Bool.true_and]
    have hr4 : rs.length = 4 := by unfold regsOk at hr; simp only [Bool.and_eq_true, decide_eq_true_eq] at hr; exact hr.1
    cases hi : insOk o a b c 32 with
    | false =>
      rw [hi] at HI
      rw [Bool.false_and, if_neg (by decide)]
      clear hi hr h hbw hx hr4
      go_enter Try.func15, Try.ntmps15
      go_upto_region 1 with fail
      rw [← hw0]
      clear hw0
      go_wp2_with fail
      refine HR.out.mono ?_
      rintro e w' ⟨rfl, rfl⟩
      go_wp2_with fail
      refine (HI.out _).mono ?_
      rintro e w1 ⟨rfl, b1⟩
      have B1 := Lib.hid (HBW.out.trans (b1.mono (by omega)))
      clear b1
      go_wp2_with fail
      go_ret
      exact ⟨_, rfl, Own.nil _ _, B1.out⟩
    | true =>
      rw [hi] at HI
      rw [Bool.true_and]
      cases ht : decide (0 ≤ t ∧ t ≤ 23) with
      | false =>
        rw [ht] at HT
        rw [if_neg (by decide)]
        clear ht hi hr h hbw hx hr4
        go_enter Try.func15, Try.ntmps15
        go_upto_region 1 with fail
        rw [← hw0]
        clear hw0
        go_wp2_with fail
        refine HR.out.mono ?_
        rintro e w' ⟨rfl, rfl⟩
        go_wp2_with fail
        refine (HI.out _).mono ?_
        rintro e w1 ⟨rfl, b1⟩
        have B1 := Lib.hid (HBW.out.trans (b1.mono (by omega)))
        clear b1
        go_wp2_with fail
        refine (HT.out _).mono ?_
        rintro e w' ⟨rfl, rfl⟩
        go_wp2_with fail
        go_ret
        exact ⟨_, rfl, Own.nil _ _, B1.out⟩
      | true =>
        rw [ht] at HT
        rw [if_pos rfl]
        have HG := Lib.hid (fun W N hs => pRegs_any B W ⟨o, a, b, c⟩ 32 t 0 rs ra rc hi hr4 N hs)
        clear ht hi hr h hbw hx
        rw [hr4] at HR ⊢
        clear hr4
        go_enter Try.func15, Try.ntmps15
        go_upto_region 1 with fail
        rw [← hw0]
        clear hw0
        go_wp2_with fail
        refine HR.out.mono ?_
        rintro e w' ⟨rfl, rfl⟩
        go_wp2_with fail
        refine (HI.out _).mono ?_
        rintro e w1 ⟨rfl, b1⟩
        have B1 := Lib.hid (HBW.out.trans (b1.mono (by omega)))
        have N1 := Lib.hid (HN.out.kept (b1.mono (by omega)))
        have hs1 : w0.heap.size ≤ w1.heap.size := b1.size
        have hx1 := HX.out.below b1
        clear i0 i1 i2 i3
        have i0 := hx1.cell 0; have i1 := hx1.cell 1; have i2 := hx1.cell 2; have i3 := hx1.cell 3
        simp at i0 i1 i2 i3
        clear b1 hx1
        go_wp2_with fail
        refine (HT.out _).mono ?_
        rintro e w' ⟨rfl, rfl⟩
        go_wp2_with fail
        refine (HG.out _ N1.out (by omega)).mono ?_
        rintro e w2 ⟨v, rfl, o2, b2⟩
        have O2 := Lib.hid (o2.lower (show w.heap.size ≤ _ by omega))
        have B2 := Lib.hid (B1.out.trans (b2.mono (by omega)))
        clear o2 b2
        go_wp2_with fail
        go_ret
        exact ⟨_, rfl, O2.out, B2.out⟩

end Go.Proofs.Ytmiopbpahkgmbaa
