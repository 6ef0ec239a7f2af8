/- The contracts of the masks' functions over rows: the lanes of a mask, the mask of lanes. -/
import Derived.Test.YtkfolcmahbnenaaMasks
import Derived.Test.YtkfolcmahbnenaaInts
namespace Go.Proofs.Ytkfolcmahbnenaa
open Go.RowKit Go

/-- What a call leaves that returns a new row of numbers. -/
def RowSaid (xs : List Int) (w : World) (e : Ending) (w' : World) : Prop :=
  ∃ v : Value, e = .returned v ∧ Own w.heap.size w' v xs ∧ Below w.heap.size w w'

/-- A loop that collects a row: what has been collected so far. -/
def RowRel (base : Nat) (W : World) (xs : List Int) (v : Value) (wr : World) : Prop :=
  Own base wr v xs ∧ Below base W wr

theorem row_snoc {base : Nat} {W wr w2 : World} {xs : List Int} {v v2 : Value} {o : Obj} {x : Int} (h : RowRel base W xs v wr)
    (hown2 : w2.ownsRow base 3 1 v2 (xs.length + 1) (xs.map (.int .i64) ++ [.int .i64 x])) (hg2 : (wr.alloc o).grownBy w2 v.ownBlock) (hb : base ≤ wr.heap.size) : RowRel base W (xs ++ [x]) v2 w2 := by
  refine ⟨?_, h.2.trans (grownBy_below (grownBy_trans (World.grownBy_alloc _ _ _) hg2) hb (fun k e => (World.ownsRow.lt h.1 k e).1))⟩
  unfold Own
  rw [List.map_append, List.length_append]
  exact hown2

theorem Own.base {B B' : Nat} {w : World} {v : Value} {xs : List Int} (h : Own B w v xs) (hb : B' ≤ B) : Own B' w v xs :=
  ⟨h.1, h.2.imp id fun ⟨g, c, cur, e1, e2, e3⟩ => ⟨g, c, cur, e1, by omega, e3⟩⟩

set_option maxHeartbeats 400000 in
theorem pLanes_any (m : Int) (w : World) : Calls Try.prog 13 #[.int .i64 m] w (RowSaid (lanesOf m) w) := by
  obtain ⟨i0, hi0, hz0, hz1, hz2⟩ := info_parts info_int
  go_enter Try.func13, Try.ntmps13
  go_wp2_with fail
  go_loopw [3, 5] (fun v i wr => ∃ k : Nat, k ≤ 8 ∧ i = .int .i64 k ∧ RowRel w.heap.size w (lanesTo m k) v wr) (fun _ i _ => 8 - (intOf i).toNat)
  case atStart => exact ⟨0, by omega, rfl, Own.nil _ _, Below.refl _ _⟩
  case round =>
    obtain ⟨k, hk, rfl, hr⟩ := hrel
    have HR := Lib.hid hr
    clear hr
    by_cases hlt : k < 8
    · have h1 := fun (W : World) => pHasLane_any m (k : Int) W
      cases hl : hasL m (k : Int) with
      | true =>
        rw [hl] at h1
        replace h1 := Lib.hid h1
        have HY := Lib.hid (lanesTo_yes hl)
        have hle := lanesTo_le m k
        have hown := HR.out.1
        have hs := HR.out.2.size
        generalize lanesTo m k = xs at *
        clear hl
        go_wp2_with fail
        refine (h1.out _).mono ?_
        rintro e w' ⟨rfl, rfl⟩
        go_wp2_with (at_builtin; refine wpList_append_own _ rfl _ _ 25 rfl w.heap.size 3 i0 (.int .i64 0) 1 8 Try.underlying25 hi0 hz0 hz1 hz2 rfl (by decide) _ _ _ rfl (World.ownsRow.alloc hown _) ⟨wr.heap.size, 0, none⟩ 1 1 [.int .i64 (k : Int)] rfl rfl (cell_one_new _ _ _) (by simp [Value.oneCell']) (by unfold maxLen; omega) (by omega) (by simp; omega) ?_; intro v' w2 hown2 hgrow _)
        go_roundw
        case rel => exact ⟨k + 1, by omega, by go_num, by rw [HY.out]; exact row_snoc HR.out hown2 hgrow hs⟩
        case measure => simp [intOf]; omega
      | false =>
        rw [hl] at h1
        replace h1 := Lib.hid h1
        have HN := Lib.hid (lanesTo_no hl)
        clear hl
        go_wp2_with fail
        refine (h1.out _).mono ?_
        rintro e w' ⟨rfl, rfl⟩
        go_wp2_with fail
        go_roundw
        case rel => exact ⟨k + 1, by omega, by go_num, by rw [HN.out]; exact HR.out⟩
        case measure => simp [intOf]; omega
    · obtain rfl : k = 8 := by omega
      go_wp2_with fail
      go_ret
      exact ⟨_, rfl, HR.out⟩

set_option maxHeartbeats 400000 in
theorem sLanes_any (m : Int) (w : World) : Calls Try.prog 23 #[.int .i64 m] w (RowSaid (lanesOf m) w) := by
  obtain ⟨i0, hi0, hz0, hz1, hz2⟩ := info_parts info_int
  go_enter Try.func23, Try.ntmps23
  go_wp2_with fail
  go_loopw [3, 4] (fun v i wr => ∃ k : Nat, k ≤ 8 ∧ i = .int .i64 k ∧ RowRel w.heap.size w (lanesTo m k) v wr) (fun _ i _ => 8 - (intOf i).toNat)
  case atStart => exact ⟨0, by omega, rfl, World.ownsRow_made w #[] 0 (Nat.le_refl _) (by unfold maxLen; omega) rfl, (Below.refl _ _).alloc (Nat.le_refl _) _⟩
  case round =>
    obtain ⟨k, hk, rfl, hr⟩ := hrel
    have HR := Lib.hid hr
    clear hr
    by_cases hlt : k < 8
    · have h1 := fun (W : World) => sHasLane_any m (k : Int) W
      cases hl : hasL m (k : Int) with
      | true =>
        rw [hl] at h1
        replace h1 := Lib.hid h1
        have HY := Lib.hid (lanesTo_yes hl)
        have hle := lanesTo_le m k
        have hown := HR.out.1
        have hs := HR.out.2.size
        generalize lanesTo m k = xs at *
        clear hl
        go_wp2_with fail
        refine (h1.out _).mono ?_
        rintro e w' ⟨rfl, rfl⟩
        go_wp2_with (at_builtin; refine wpList_append_own _ rfl _ _ 25 rfl w.heap.size 3 i0 (.int .i64 0) 1 8 Try.underlying25 hi0 hz0 hz1 hz2 rfl (by decide) _ _ _ rfl (World.ownsRow.alloc hown _) ⟨wr.heap.size, 0, none⟩ 1 1 [.int .i64 (k : Int)] rfl rfl (cell_one_new _ _ _) (by simp [Value.oneCell']) (by unfold maxLen; omega) (by omega) (by simp; omega) ?_; intro v' w2 hown2 hgrow _)
        go_roundw
        case rel => exact ⟨k + 1, by omega, by go_num, by rw [HY.out]; exact row_snoc HR.out hown2 hgrow hs⟩
        case measure => simp [intOf]; omega
      | false =>
        rw [hl] at h1
        replace h1 := Lib.hid h1
        have HN := Lib.hid (lanesTo_no hl)
        clear hl
        go_wp2_with fail
        refine (h1.out _).mono ?_
        rintro e w' ⟨rfl, rfl⟩
        go_wp2_with fail
        go_roundw
        case rel => exact ⟨k + 1, by omega, by go_num, by rw [HN.out]; exact HR.out⟩
        case measure => simp [intOf]; omega
    · obtain rfl : k = 8 := by omega
      go_wp2_with fail
      go_ret
      exact ⟨_, rfl, HR.out⟩

theorem ret2_if {x y : Int} {a b : Bool} (h : x = y) (k : a = b) : Ending.returned (.tuple #[.int .i64 x, .bool a]) = .returned (.tuple #[.int .i64 y, .bool b]) := by rw [h, k]

set_option maxHeartbeats 400000 in
theorem pMaskOf_any (B : Nat) (w : World) (a : Option Addr) (xs : List Int) (cap : Nat) (hl : xs.length ≤ 10000000) (h : Nums B w a xs) :
    Calls Try.prog 14 #[.slice a xs.length cap] w (fun e w' => e = .returned (.tuple #[.int .i64 (maskV xs), .bool (xs.all isL)]) ∧ w = w') := by
  have HH := Lib.hid h
  clear h
  go_enter Try.func14, Try.ntmps14
  go_wp2_with fail
  go_loop [4, 9] (fun m i => ∃ k : Nat, k ≤ xs.length ∧ i = .int .i64 k ∧ m = .int .i64 (maskOf (xs.take k)) ∧ ∀ x ∈ xs.take k, isL x = true) (fun _ i => xs.length - (intOf i).toNat)
  case atStart => exact ⟨0, Nat.zero_le _, rfl, rfl, by simp⟩
  case round =>
    obtain ⟨k, hk, rfl, rfl, hr⟩ := hrel
    have HR := Lib.hid hr
    clear hr
    by_cases hlt : k < xs.length
    · obtain ⟨g, off, rfl, _, hc⟩ := HH.out.2 k hlt
      have Hno := Lib.hid (masks_no hlt)
      have Hyes := Lib.hid (masks_take hlt HR.out)
      generalize xs[k] = x at *
      generalize maskOf (xs.take k) = mk at *
      have h1 := fun (W : World) => pIsLane_any x W
      cases hx : isL x with
      | true =>
        have HX := Lib.hid hx
        obtain ⟨x0, x1⟩ := isL_iff.1 hx
        obtain ⟨j, rfl⟩ := Int.eq_ofNat_of_zero_le x0
        have HS := Lib.hid (shl1 (k := j) (by omega))
        rw [hx] at h1
        replace h1 := Lib.hid h1
        clear hx
        go_wp2_with fail
        refine (h1.out _).mono ?_
        rintro e w' ⟨rfl, rfl⟩
        go_wp2_with fail
        go_round
        case rel => exact ⟨k + 1, hlt, by go_num, by rw [(Hyes.out HX.out).2, Int.toNat_natCast, HS.out], (Hyes.out HX.out).1⟩
        case measure => simp [intOf]; omega
      | false =>
        have HX := Lib.hid hx
        rw [hx] at h1
        replace h1 := Lib.hid h1
        clear hx
        go_wp2_with fail
        refine (h1.out _).mono ?_
        rintro e w' ⟨rfl, rfl⟩
        go_wp2_with fail
        go_ret2
        exact ⟨ret2_if (maskV_no (Hno.out HX.out)).symm (Hno.out HX.out).symm, rfl⟩
    · obtain rfl : k = xs.length := by omega
      go_wp2_with fail
      go_ret2
      exact ⟨ret2_if (by rw [maskV_yes (masks_yes HR.out)]) (masks_yes HR.out).symm, rfl⟩

set_option maxHeartbeats 400000 in
theorem sMaskOf_any (B : Nat) (w : World) (a : Option Addr) (xs : List Int) (cap : Nat) (hl : xs.length ≤ 10000000) (h : Nums B w a xs) :
    Calls Try.prog 27 #[.slice a xs.length cap] w (fun e w' => e = .returned (.tuple #[.int .i64 (maskV xs), .bool (xs.all isL)]) ∧ w = w') := by
  have HH := Lib.hid h
  clear h
  go_enter Try.func27, Try.ntmps27
  go_wp2_with fail
  go_loop [4, 5] (fun m i => ∃ k : Nat, k ≤ xs.length ∧ i = .int .i64 k ∧ m = .int .i64 (maskOf (xs.take k)) ∧ ∀ x ∈ xs.take k, isL x = true) (fun _ i => xs.length - (intOf i).toNat)
  case atStart => exact ⟨0, Nat.zero_le _, rfl, rfl, by simp⟩
  case round =>
    obtain ⟨k, hk, rfl, rfl, hr⟩ := hrel
    have HR := Lib.hid hr
    clear hr
    by_cases hlt : k < xs.length
    · obtain ⟨g, off, rfl, _, hc⟩ := HH.out.2 k hlt
      have Hno := Lib.hid (masks_no hlt)
      have Hyes := Lib.hid (masks_take hlt HR.out)
      generalize xs[k] = x at *
      generalize maskOf (xs.take k) = mk at *
      have h1 := fun (W : World) => mIsLane_any x W
      cases hx : isL x with
      | true =>
        have HX := Lib.hid hx
        obtain ⟨x0, x1⟩ := isL_iff.1 hx
        obtain ⟨j, rfl⟩ := Int.eq_ofNat_of_zero_le x0
        have HS := Lib.hid (shl1 (k := j) (by omega))
        rw [hx] at h1
        replace h1 := Lib.hid h1
        clear hx
        go_wp2_with fail
        refine (h1.out _).mono ?_
        rintro e w' ⟨rfl, rfl⟩
        go_wp2_with fail
        go_round
        case rel => exact ⟨k + 1, hlt, by go_num, by rw [(Hyes.out HX.out).2, Int.toNat_natCast, HS.out], (Hyes.out HX.out).1⟩
        case measure => simp [intOf]; omega
      | false =>
        have HX := Lib.hid hx
        rw [hx] at h1
        replace h1 := Lib.hid h1
        clear hx
        go_wp2_with fail
        refine (h1.out _).mono ?_
        rintro e w' ⟨rfl, rfl⟩
        go_wp2_with fail
        go_ret2
        exact ⟨ret2_if (maskV_no (Hno.out HX.out)).symm (Hno.out HX.out).symm, rfl⟩
    · obtain rfl : k = xs.length := by omega
      go_wp2_with fail
      go_ret2
      exact ⟨ret2_if (by rw [maskV_yes (masks_yes HR.out)]) (masks_yes HR.out).symm, rfl⟩

end Go.Proofs.Ytkfolcmahbnenaa
