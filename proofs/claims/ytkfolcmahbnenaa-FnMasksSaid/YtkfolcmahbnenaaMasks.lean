/- The contracts of the masks' functions, the program's and the model's. -/
import Derived.Test.YtkfolcmahbnenaaBase
import Derived.Test.YtkfolcmahbnenaaChecked
import Derived.IntWalk
import Derived.LoopTactic
namespace Go.Proofs.Ytkfolcmahbnenaa
open Go.RowKit Go

theorem ret_boolM {a b : Bool} (h : a = b) : Ending.returned (.bool a) = .returned (.bool b) := by rw [h]
/-- Is n a mask? -/
def isM (n : Int) : Bool := decide (0 ≤ n ∧ n ≤ 255)
theorem isM_mk {n : Int} (h0 : 0 ≤ n) (h1 : n ≤ 255) : isM n = true := by unfold isM; simp; omega
theorem isM_iff {n : Int} : isM n = true ↔ 0 ≤ n ∧ n ≤ 255 := by unfold isM; simp
theorem isM_not {n : Int} : isM n = false ↔ ¬ (0 ≤ n ∧ n ≤ 255) := by unfold isM; simp only [decide_eq_false_iff_not]
/-- Is n a lane? -/
def isL (n : Int) : Bool := decide (0 ≤ n ∧ n ≤ 7)
theorem isL_mk {n : Int} (h0 : 0 ≤ n) (h1 : n ≤ 7) : isL n = true := by unfold isL; simp; omega
theorem isL_iff {n : Int} : isL n = true ↔ 0 ≤ n ∧ n ≤ 7 := by unfold isL; simp
theorem isL_not {n : Int} : isL n = false ↔ ¬ (0 ≤ n ∧ n ≤ 7) := by unfold isL; simp only [decide_eq_false_iff_not]
/-- Does the mask m hold the lane l? -/
def hasL (m l : Int) : Bool := isM m && (isL l && decide (m / 2 ^ l.toNat % 2 = 1))
theorem hasL_noM {m : Int} (l : Int) (h : isM m = false) : hasL m l = false := by unfold hasL; simp [h]
theorem hasL_noL {l : Int} (m : Int) (h : isL l = false) : hasL m l = false := by unfold hasL; simp [h]

theorem and1 (y : Int) : bits .and .i64 y 1 = y % 2 := by
  have h2 : ((BitVec.ofInt 64 y) &&& (BitVec.ofInt 64 1)).toNat = (BitVec.ofInt 64 y).toNat % 2 := by
    rw [BitVec.toNat_and]; exact Nat.and_one_is_mod _
  show IntKind.i64.wrap (((BitVec.ofInt 64 y) &&& (BitVec.ofInt 64 1)).toNat : Int) = _
  rw [h2, BitVec.toNat_ofInt]
  rw [IntWalk.i64_in _ (by omega)]
  omega
theorem hasL_yes {m l : Int} (hm : isM m = true) (hl : isL l = true) : (bits .and .i64 (m / 2 ^ l.toNat) 1 == 1) = hasL m l := by
  unfold hasL; rw [hm, hl, and1]; simp; rfl

theorem pIsMask_any (n : Int) (w : World) : Calls Try.prog 18 #[.int .i64 n] w (fun e w' => e = .returned (.bool (isM n)) ∧ w = w') := by
  by_cases h0 : 0 ≤ n
  · have e : isM n = decide (n ≤ 255) := by unfold isM; simp [h0]
    rw [e]
    go_enter Try.func18, Try.ntmps18
    go_wp2
    go_ret
    exact ⟨rfl, rfl⟩
  · have e : isM n = false := by unfold isM; simp [h0]
    rw [e]
    have hd : decide (0 ≤ n) = false := by simpa using h0
    go_enter Try.func18, Try.ntmps18
    go_wp2
    go_ret
    exact ⟨rfl, rfl⟩

theorem pIsLane_any (n : Int) (w : World) : Calls Try.prog 33 #[.int .i64 n] w (fun e w' => e = .returned (.bool (isL n)) ∧ w = w') := by
  by_cases h0 : 0 ≤ n
  · have e : isL n = decide (n ≤ 7) := by unfold isL; simp [h0]
    rw [e]
    go_enter Try.func33, Try.ntmps33
    go_wp2
    go_ret
    exact ⟨rfl, rfl⟩
  · have e : isL n = false := by unfold isL; simp [h0]
    rw [e]
    have hd : decide (0 ≤ n) = false := by simpa using h0
    go_enter Try.func33, Try.ntmps33
    go_wp2
    go_ret
    exact ⟨rfl, rfl⟩

theorem mIn_any (n a b : Int) (w : World) : Calls Try.prog 35 #[.int .i64 n, .int .i64 a, .int .i64 b] w (fun e w' => e = .returned (.bool (decide (a ≤ n ∧ n ≤ b))) ∧ w = w') := by
  by_cases h0 : a ≤ n
  · have e : decide (a ≤ n ∧ n ≤ b) = decide (n ≤ b) := by simp [h0]
    rw [e]
    go_enter Try.func35, Try.ntmps35
    go_wp2
    go_ret
    exact ⟨rfl, rfl⟩
  · have e : decide (a ≤ n ∧ n ≤ b) = false := by simp [h0]
    rw [e]
    have hd : decide (a ≤ n) = false := by simpa using h0
    go_enter Try.func35, Try.ntmps35
    go_wp2
    go_ret
    exact ⟨rfl, rfl⟩

theorem sIsMask_any (n : Int) (w : World) : Calls Try.prog 20 #[.int .i64 n] w (fun e w' => e = .returned (.bool (isM n)) ∧ w = w') := by
  have h := fun (W : World) => mIn_any n 0 255 W
  have e : decide (0 ≤ n ∧ n ≤ 255) = isM n := rfl
  rw [e] at h
  have H := Lib.hid h
  clear h e
  go_enter Try.func20, Try.ntmps20
  go_wp2_with fail
  refine (H.out _).mono ?_
  rintro e w' ⟨rfl, rfl⟩
  go_wp2_with fail
  go_ret
  exact ⟨rfl, rfl⟩

theorem mIsLane_any (n : Int) (w : World) : Calls Try.prog 35 #[.int .i64 n, .int .i64 0, .int .i64 7] w (fun e w' => e = .returned (.bool (isL n)) ∧ w = w') := mIn_any n 0 7 w

set_option maxHeartbeats 400000 in
theorem pHasLane_any (m l : Int) (w : World) : Calls Try.prog 16 #[.int .i64 m, .int .i64 l] w (fun e w' => e = .returned (.bool (hasL m l)) ∧ w = w') := by
  cases hm : isM m with
  | false =>
    rw [hasL_noM l hm]
    have h1 := fun (W : World) => pIsMask_any m W
    rw [hm] at h1
    replace h1 := Lib.hid h1
    clear hm
    go_enter Try.func16, Try.ntmps16
    go_wp2_with fail
    refine (h1.out _).mono ?_
    rintro e w' ⟨rfl, rfl⟩
    go_wp2_with fail
    go_ret
    exact ⟨rfl, rfl⟩
  | true =>
    have h1 := fun (W : World) => pIsMask_any m W
    rw [hm] at h1
    replace h1 := Lib.hid h1
    cases hl : isL l with
    | false =>
      rw [hasL_noL m hl]
      have h2 := fun (W : World) => pIsLane_any l W
      rw [hl] at h2
      replace h2 := Lib.hid h2
      clear hm hl
      go_enter Try.func16, Try.ntmps16
      go_wp2_with fail
      refine (h1.out _).mono ?_
      rintro e w' ⟨rfl, rfl⟩
      go_wp2_with fail
      refine (h2.out _).mono ?_
      rintro e w' ⟨rfl, rfl⟩
      go_wp2_with fail
      go_ret
      exact ⟨rfl, rfl⟩
    | true =>
      have h2 := fun (W : World) => pIsLane_any l W
      rw [hl] at h2
      replace h2 := Lib.hid h2
      have M := Lib.hid hm
      have L := Lib.hid hl
      obtain ⟨hm0, hm1⟩ := isM_iff.1 hm
      obtain ⟨hl0, hl1⟩ := isL_iff.1 hl
      clear hm hl
      go_enter Try.func16, Try.ntmps16
      go_wp2_with fail
      refine (h1.out _).mono ?_
      rintro e w' ⟨rfl, rfl⟩
      go_wp2_with fail
      refine (h2.out _).mono ?_
      rintro e w' ⟨rfl, rfl⟩
      go_wp2_with fail
      go_ret
      exact ⟨ret_boolM (hasL_yes M.out L.out), rfl⟩

theorem sHasLane_any (m l : Int) (w : World) : Calls Try.prog 21 #[.int .i64 m, .int .i64 l] w (fun e w' => e = .returned (.bool (hasL m l)) ∧ w = w') := by
  cases hm : isM m with
  | false =>
    rw [hasL_noM l hm]
    have h1 := fun (W : World) => sIsMask_any m W
    rw [hm] at h1
    replace h1 := Lib.hid h1
    clear hm
    go_enter Try.func21, Try.ntmps21
    go_wp2_with fail
    refine (h1.out _).mono ?_
    rintro e w' ⟨rfl, rfl⟩
    go_wp2_with fail
    go_ret
    exact ⟨rfl, rfl⟩
  | true =>
    have h1 := fun (W : World) => sIsMask_any m W
    rw [hm] at h1
    replace h1 := Lib.hid h1
    cases hl : isL l with
    | false =>
      rw [hasL_noL m hl]
      have h2 := fun (W : World) => mIsLane_any l W
      rw [hl] at h2
      replace h2 := Lib.hid h2
      clear hm hl
      go_enter Try.func21, Try.ntmps21
      go_wp2_with fail
      refine (h1.out _).mono ?_
      rintro e w' ⟨rfl, rfl⟩
      go_wp2_with fail
      refine (h2.out _).mono ?_
      rintro e w' ⟨rfl, rfl⟩
      go_wp2_with fail
      go_ret
      exact ⟨rfl, rfl⟩
    | true =>
      have h2 := fun (W : World) => mIsLane_any l W
      rw [hl] at h2
      replace h2 := Lib.hid h2
      have M := Lib.hid hm
      have L := Lib.hid hl
      obtain ⟨hm0, hm1⟩ := isM_iff.1 hm
      obtain ⟨hl0, hl1⟩ := isL_iff.1 hl
      clear hm hl
      go_enter Try.func21, Try.ntmps21
      go_wp2_with fail
      refine (h1.out _).mono ?_
      rintro e w' ⟨rfl, rfl⟩
      go_wp2_with fail
      refine (h2.out _).mono ?_
      rintro e w' ⟨rfl, rfl⟩
      go_wp2_with fail
      go_ret
      exact ⟨ret_boolM (hasL_yes M.out L.out), rfl⟩

/-! ### Counting -/

/-- The lanes of m among the first k. -/
def lanesTo (m : Int) (k : Nat) : List Int := ((List.range k).filter fun i : Nat => hasL m (i : Int)).map fun i : Nat => (i : Int)
def lanesOf (m : Int) : List Int := lanesTo m 8
def cntL (m : Int) : Int := if isM m = true then ((lanesOf m).length : Int) else -1
theorem lanesTo_yes {m : Int} {k : Nat} (h : hasL m (k : Int) = true) : lanesTo m (k + 1) = lanesTo m k ++ [(k : Int)] := by
  unfold lanesTo; rw [List.range_succ, List.filter_append, List.map_append]; simp [h]
theorem lanesTo_no {m : Int} {k : Nat} (h : hasL m (k : Int) = false) : lanesTo m (k + 1) = lanesTo m k := by
  unfold lanesTo; rw [List.range_succ, List.filter_append, List.map_append]; simp [h]
theorem lanesTo_le (m : Int) (k : Nat) : (lanesTo m k).length ≤ k := by
  unfold lanesTo; rw [List.length_map]; have := List.length_filter_le (fun i : Nat => hasL m (i : Int)) (List.range k); simpa using this
theorem lanesTo_lane {m : Int} {k : Nat} (hk : k ≤ 8) : ∀ x ∈ lanesTo m k, 0 ≤ x ∧ x ≤ 7 := by
  intro x hx
  unfold lanesTo at hx
  obtain ⟨i, hi, rfl⟩ := List.mem_map.1 hx
  have := List.mem_range.1 (List.mem_filter.1 hi).1
  omega

def o1 (m : Int) : Int := IntKind.u64.wrap (bits .and .u64 (m / 2) 6148914691236517205 + bits .and .u64 m 6148914691236517205)
def o2 (m : Int) : Int := IntKind.u64.wrap (bits .and .u64 (o1 m / 4) 3689348814741910323 + bits .and .u64 (o1 m) 3689348814741910323)
def o3 (m : Int) : Int := bits .and .u64 (IntKind.u64.wrap (o2 m / 16 + o2 m)) 1085102592571150095
def o4 (m : Int) : Int := IntKind.u64.wrap (o3 m + o3 m / 256)
def o5 (m : Int) : Int := IntKind.u64.wrap (o4 m + o4 m / 65536)
def o6 (m : Int) : Int := IntKind.u64.wrap (o5 m + o5 m / 4294967296)
def o7 (m : Int) : Int := bits .and .i64 (wrap64 (o6 m)) 127
theorem o7_all : ∀ i : Fin 256, o7 ((i.val : Nat) : Int) = ((lanesOf ((i.val : Nat) : Int)).length : Int) := by decide +kernel
theorem o7_eq {m : Int} (h0 : 0 ≤ m) (h1 : m ≤ 255) : o7 m = ((lanesOf m).length : Int) := by
  have := o7_all ⟨m.toNat, by omega⟩
  simp only [Int.toNat_of_nonneg h0] at this
  exact this

theorem pOnes64_any (m : Int) (h0 : 0 ≤ m) (h1 : m ≤ 255) (w : World) : Calls Try.prog 39 #[.int .u64 m] w (fun e w' => e = .returned (.int .i64 ((lanesOf m).length : Int)) ∧ w = w') := by
  have H := Lib.hid (o7_eq h0 h1)
  go_enter Try.func39, Try.ntmps39
  go_wp2_with fail
  go_ret
  exact ⟨ret_int H.out, rfl⟩

theorem pOnes_any (m : Int) (h0 : 0 ≤ m) (h1 : m ≤ 255) (w : World) : Calls Try.prog 34 #[.int .u64 m] w (fun e w' => e = .returned (.int .i64 ((lanesOf m).length : Int)) ∧ w = w') := by
  have H := Lib.hid (fun (W : World) => pOnes64_any m h0 h1 W)
  obtain ⟨x, hx⟩ : ∃ x, x = ((lanesOf m).length : Int) := ⟨_, rfl⟩
  rw [← hx] at H ⊢
  clear hx
  go_enter Try.func34, Try.ntmps34
  go_wp2_with fail
  refine (H.out _).mono ?_
  rintro e w' ⟨rfl, rfl⟩
  go_wp2_with fail
  go_ret
  exact ⟨rfl, rfl⟩

theorem u64_id {m : Int} (h0 : 0 ≤ m) (h1 : m ≤ 255) : IntKind.u64.wrap m = m := by rw [IntKind.wrap_u64]; omega

theorem pCount_any (m : Int) (w : World) : Calls Try.prog 19 #[.int .i64 m] w (fun e w' => e = .returned (.int .i64 (cntL m)) ∧ w = w') := by
  cases hm : isM m with
  | false =>
    have e : cntL m = -1 := by unfold cntL; rw [hm]; rfl
    rw [e]
    have h1 := fun (W : World) => pIsMask_any m W
    rw [hm] at h1
    replace h1 := Lib.hid h1
    clear hm e
    go_enter Try.func19, Try.ntmps19
    go_wp2_with fail
    refine (h1.out _).mono ?_
    rintro e w' ⟨rfl, rfl⟩
    go_wp2_with fail
    go_ret
    exact ⟨rfl, rfl⟩
  | true =>
    have e : cntL m = ((lanesOf m).length : Int) := by unfold cntL; rw [hm]; rfl
    rw [e]
    have h1 := fun (W : World) => pIsMask_any m W
    rw [hm] at h1
    replace h1 := Lib.hid h1
    obtain ⟨hm0, hm1⟩ := isM_iff.1 hm
    have h2 := Lib.hid (fun (W : World) => pOnes_any m hm0 hm1 W)
    obtain ⟨x, hx⟩ : ∃ x, x = ((lanesOf m).length : Int) := ⟨_, rfl⟩
    rw [← hx] at h2 ⊢
    clear hm e hx
    go_enter Try.func19, Try.ntmps19
    go_wp2_with fail
    refine (h1.out _).mono ?_
    rintro e w' ⟨rfl, rfl⟩
    go_wp2_with fail
    refine (h2.out _).mono ?_
    rintro e w' ⟨rfl, rfl⟩
    go_wp2_with fail
    go_ret
    exact ⟨rfl, rfl⟩

theorem cnt_step {m : Int} {k : Nat} (hm : isM m = true) (hk : k < 8) : ((lanesTo m k).length : Int) + bits .and .i64 (m / 2 ^ k) 1 = ((lanesTo m (k + 1)).length : Int) := by
  have hh := hasL_yes hm (isL_mk (n := (k : Int)) (by omega) (by omega))
  rw [Int.toNat_natCast] at hh
  cases h : hasL m (k : Int) with
  | true => rw [h] at hh; rw [lanesTo_yes h, List.length_append]; have := eq_of_beq hh; rw [this]; rfl
  | false =>
    rw [h] at hh
    rw [lanesTo_no h]
    rw [and1] at hh ⊢
    have : m / 2 ^ k % 2 ≠ 1 := by simpa using hh
    omega

theorem and1_bd (y : Int) : 0 ≤ bits .and .i64 y 1 ∧ bits .and .i64 y 1 ≤ 1 := by rw [and1]; omega

set_option maxHeartbeats 400000 in
theorem sCount_any (m : Int) (w : World) : Calls Try.prog 22 #[.int .i64 m] w (fun e w' => e = .returned (.int .i64 (cntL m)) ∧ w = w') := by
  cases hm : isM m with
  | false =>
    have e : cntL m = -1 := by unfold cntL; rw [hm]; rfl
    rw [e]
    have h1 := fun (W : World) => sIsMask_any m W
    rw [hm] at h1
    replace h1 := Lib.hid h1
    clear hm e
    go_enter Try.func22, Try.ntmps22
    go_wp2_with fail
    refine (h1.out _).mono ?_
    rintro e w' ⟨rfl, rfl⟩
    go_wp2_with fail
    go_ret
    exact ⟨rfl, rfl⟩
  | true =>
    have e : cntL m = ((lanesOf m).length : Int) := by unfold cntL; rw [hm]; rfl
    rw [e]
    have h1 := fun (W : World) => sIsMask_any m W
    rw [hm] at h1
    replace h1 := Lib.hid h1
    obtain ⟨hm0, hm1⟩ := isM_iff.1 hm
    have HM := Lib.hid hm
    clear hm e
    go_enter Try.func22, Try.ntmps22
    go_wp2_with fail
    refine (h1.out _).mono ?_
    rintro e w' ⟨rfl, rfl⟩
    go_wp2_with fail
    go_loop [3, 4] (fun n i => ∃ k : Nat, k ≤ 8 ∧ i = .int .i64 k ∧ n = .int .i64 ((lanesTo m k).length : Int)) (fun _ i => 8 - (intOf i).toNat)
    case atStart => exact ⟨0, by omega, rfl, rfl⟩
    case round =>
      obtain ⟨k, hk, rfl, rfl⟩ := hrel
      by_cases hlt : k < 8
      · have S := Lib.hid (cnt_step HM.out hlt)
        have hb := lanesTo_le m k
        have hb2 := and1_bd (m / 2 ^ k)
        generalize (lanesTo m k).length = c at *
        go_wp2_with fail
        go_round
        case rel => exact ⟨k + 1, by omega, by go_num, by rw [← S.out]⟩
        case measure => simp [intOf]; omega
      · obtain rfl : k = 8 := by omega
        go_wp2_with fail
        go_ret
        exact ⟨rfl, rfl⟩

/-! ### The lanes of a mask, the mask of lanes, a mask split -/

/-- The mask of lanes, added one by one. -/
def maskOf (xs : List Int) : Int := xs.foldl (fun m l => bits .or .i64 m (2 ^ l.toNat)) 0
theorem maskOf_snoc (xs : List Int) (l : Int) : maskOf (xs ++ [l]) = bits .or .i64 (maskOf xs) (2 ^ l.toNat) := by unfold maskOf; rw [List.foldl_append]; rfl
theorem maskOf_lanes_all : ∀ i : Fin 256, maskOf (lanesOf ((i.val : Nat) : Int)) = ((i.val : Nat) : Int) := by decide +kernel
theorem maskOf_lanes {m : Int} (h0 : 0 ≤ m) (h1 : m ≤ 255) : maskOf (lanesOf m) = m := by
  have := maskOf_lanes_all ⟨m.toNat, by omega⟩
  simp only [Int.toNat_of_nonneg h0] at this
  exact this
/-- What MaskOf answers. -/
def maskV (xs : List Int) : Int := if xs.all isL = true then maskOf xs else 0

theorem shl1_all : ∀ i : Fin 8, wrap64 ((2 : Int) ^ i.val) = (2 : Int) ^ i.val := by decide +kernel
theorem shl1 {k : Nat} (h : k < 8) : wrap64 ((2 : Int) ^ k) = (2 : Int) ^ k := shl1_all ⟨k, h⟩

theorem masks_take {xs : List Int} {k : Nat} (hk : k < xs.length) (h : ∀ x ∈ xs.take k, isL x = true) (hx : isL xs[k] = true) : (∀ x ∈ xs.take (k + 1), isL x = true) ∧ maskOf (xs.take (k + 1)) = bits .or .i64 (maskOf (xs.take k)) (2 ^ (xs[k]).toNat) := by
  rw [List.take_succ_eq_append_getElem hk]
  refine ⟨fun x hm => ?_, maskOf_snoc _ _⟩
  rw [List.mem_append, List.mem_singleton] at hm
  rcases hm with hm | rfl
  · exact h x hm
  · exact hx
theorem masks_no {xs : List Int} {k : Nat} (hk : k < xs.length) (hx : isL xs[k] = false) : xs.all isL = false := by
  rw [List.all_eq_false]
  exact ⟨_, List.getElem_mem hk, by rw [hx]; simp⟩
theorem masks_yes {xs : List Int} (h : ∀ x ∈ xs.take xs.length, isL x = true) : xs.all isL = true := by
  rw [List.all_eq_true]
  rwa [List.take_length] at h
theorem maskV_no {xs : List Int} (h : xs.all isL = false) : maskV xs = 0 := by unfold maskV; rw [h]; rfl
theorem maskV_yes {xs : List Int} (h : xs.all isL = true) : maskV xs = maskOf xs := by unfold maskV; rw [h]; rfl

def splitA (m o : Int) : Int := if isM m = true ∧ isM o = true then bits .and .i64 m o else 0
def splitB (m o : Int) : Int := if isM m = true ∧ isM o = true then bits .andNot .i64 m o else 0

theorem ofIntM {a : Nat} (ha : a ≤ 255) : (BitVec.ofInt 64 (a : Int)).toNat = a := by
  rw [BitVec.ofInt_natCast, BitVec.toNat_ofNat]; exact Nat.mod_eq_of_lt (by omega)
theorem andM {a b : Nat} (ha : a ≤ 255) (hb : b ≤ 255) : bits .and .i64 (a : Int) (b : Int) = ((a &&& b : Nat) : Int) := by
  have hx : a &&& b ≤ a := Nat.and_le_left
  show IntKind.i64.wrap ((BitVec.ofInt 64 (a : Int) &&& BitVec.ofInt 64 (b : Int)).toNat : Int) = _
  rw [BitVec.toNat_and, ofIntM ha, ofIntM hb]
  exact IntWalk.i64_in _ (by omega)
theorem andNotM {a b : Nat} (ha : a ≤ 255) (hb : b ≤ 255) : bits .andNot .i64 (a : Int) (b : Int) = ((a &&& (18446744073709551615 - b) : Nat) : Int) := by
  have hx : a &&& (18446744073709551615 - b) ≤ a := Nat.and_le_left
  show IntKind.i64.wrap ((BitVec.ofInt 64 (a : Int) &&& ~~~BitVec.ofInt 64 (b : Int)).toNat : Int) = _
  rw [BitVec.toNat_and, BitVec.toNat_not, ofIntM ha, ofIntM hb]
  have e : 2 ^ 64 - 1 - b = 18446744073709551615 - b := by omega
  rw [e]
  exact IntWalk.i64_in _ (by omega)
theorem split_bv (x y : BitVec 64) : (x &&& y) + (x &&& ~~~y) = x := by
  rw [BitVec.add_eq_or_of_and_eq_zero]
  · ext i hi; simp; cases x[i] <;> cases y[i] <;> rfl
  · ext i hi; simp; intro a b; simp [a, b]
theorem split_nat {a b : Nat} (ha : a ≤ 255) (hb : b ≤ 255) : (a &&& b) + (a &&& (18446744073709551615 - b)) = a := by
  have h := congrArg BitVec.toNat (split_bv (BitVec.ofInt 64 (a : Int)) (BitVec.ofInt 64 (b : Int)))
  rw [BitVec.toNat_add, BitVec.toNat_and, BitVec.toNat_and, BitVec.toNat_not, ofIntM ha, ofIntM hb] at h
  have e : 2 ^ 64 - 1 - b = 18446744073709551615 - b := by omega
  rw [e] at h
  have h1 : a &&& b ≤ a := Nat.and_le_left
  have h2 : a &&& (18446744073709551615 - b) ≤ a := Nat.and_le_left
  omega
theorem split_sum {m o : Int} (hm : isM m = true) (ho : isM o = true) : bits .and .i64 m o + bits .andNot .i64 m o = m ∧ 0 ≤ bits .and .i64 m o ∧ 0 ≤ bits .andNot .i64 m o := by
  obtain ⟨h0, h1⟩ := isM_iff.1 hm
  obtain ⟨k0, k1⟩ := isM_iff.1 ho
  obtain ⟨a, rfl⟩ := Int.eq_ofNat_of_zero_le h0
  obtain ⟨b, rfl⟩ := Int.eq_ofNat_of_zero_le k0
  have := split_nat (a := a) (b := b) (by omega) (by omega)
  rw [andM (by omega) (by omega), andNotM (by omega) (by omega)]
  omega

set_option maxHeartbeats 400000 in
theorem pSplit_any (m o : Int) (w : World) : Calls Try.prog 15 #[.int .i64 m, .int .i64 o] w (fun e w' => e = .returned (.tuple #[.int .i64 (splitA m o), .int .i64 (splitB m o)]) ∧ w = w') := by
  have h1 := fun (W : World) => pIsMask_any m W
  have h2 := fun (W : World) => pIsMask_any o W
  unfold splitA splitB
  cases hm : isM m with
  | false =>
    rw [hm] at h1
    replace h1 := Lib.hid h1
    clear hm h2
    rw [if_neg (by simp), if_neg (by simp)]
    go_enter Try.func15, Try.ntmps15
    go_wp2_with fail
    refine (h1.out _).mono ?_
    rintro e w' ⟨rfl, rfl⟩
    go_wp2_with fail
    go_ret2
    exact ⟨rfl, rfl⟩
  | true =>
    rw [hm] at h1
    replace h1 := Lib.hid h1
    cases ho : isM o with
    | false =>
      rw [ho] at h2
      replace h2 := Lib.hid h2
      clear hm ho
      rw [if_neg (by simp), if_neg (by simp)]
      go_enter Try.func15, Try.ntmps15
      go_wp2_with fail
      refine (h1.out _).mono ?_
      rintro e w' ⟨rfl, rfl⟩
      go_wp2_with fail
      refine (h2.out _).mono ?_
      rintro e w' ⟨rfl, rfl⟩
      go_wp2_with fail
      go_ret2
      exact ⟨rfl, rfl⟩
    | true =>
      rw [ho] at h2
      replace h2 := Lib.hid h2
      clear hm ho
      rw [if_pos ⟨rfl, rfl⟩, if_pos ⟨rfl, rfl⟩]
      go_enter Try.func15, Try.ntmps15
      go_wp2_with fail
      refine (h1.out _).mono ?_
      rintro e w' ⟨rfl, rfl⟩
      go_wp2_with fail
      refine (h2.out _).mono ?_
      rintro e w' ⟨rfl, rfl⟩
      go_wp2_with fail
      go_ret2
      exact ⟨rfl, rfl⟩

theorem ret_pair {a b c d : Int} (h : a = c) (k : b = d) : Ending.returned (.tuple #[.int .i64 a, .int .i64 b]) = .returned (.tuple #[.int .i64 c, .int .i64 d]) := by rw [h, k]

set_option maxHeartbeats 400000 in
theorem sSplit_any (m o : Int) (w : World) : Calls Try.prog 29 #[.int .i64 m, .int .i64 o] w (fun e w' => e = .returned (.tuple #[.int .i64 (splitA m o), .int .i64 (splitB m o)]) ∧ w = w') := by
  have h1 := fun (W : World) => sIsMask_any m W
  have h2 := fun (W : World) => sIsMask_any o W
  unfold splitA splitB
  cases hm : isM m with
  | false =>
    rw [hm] at h1
    replace h1 := Lib.hid h1
    clear hm h2
    rw [if_neg (by simp), if_neg (by simp)]
    go_enter Try.func29, Try.ntmps29
    go_wp2_with fail
    refine (h1.out _).mono ?_
    rintro e w' ⟨rfl, rfl⟩
    go_wp2_with fail
    go_ret2
    exact ⟨rfl, rfl⟩
  | true =>
    rw [hm] at h1
    replace h1 := Lib.hid h1
    cases ho : isM o with
    | false =>
      rw [ho] at h2
      replace h2 := Lib.hid h2
      clear hm ho
      rw [if_neg (by simp), if_neg (by simp)]
      go_enter Try.func29, Try.ntmps29
      go_wp2_with fail
      refine (h1.out _).mono ?_
      rintro e w' ⟨rfl, rfl⟩
      go_wp2_with fail
      refine (h2.out _).mono ?_
      rintro e w' ⟨rfl, rfl⟩
      go_wp2_with fail
      go_ret2
      exact ⟨rfl, rfl⟩
    | true =>
      have S := Lib.hid (split_sum hm ho)
      obtain ⟨hm0, hm1⟩ := isM_iff.1 hm
      obtain ⟨s1, s2, s3⟩ := S.out
      have h3 : bits .and .i64 m o ≤ 255 := by omega
      clear s1 s3
      rw [ho] at h2
      replace h2 := Lib.hid h2
      clear hm ho
      rw [if_pos ⟨rfl, rfl⟩, if_pos ⟨rfl, rfl⟩]
      go_enter Try.func29, Try.ntmps29
      go_wp2_with fail
      refine (h1.out _).mono ?_
      rintro e w' ⟨rfl, rfl⟩
      go_wp2_with fail
      refine (h2.out _).mono ?_
      rintro e w' ⟨rfl, rfl⟩
      go_wp2_with fail
      go_ret2
      exact ⟨ret_pair rfl (by have := S.out.1; omega), rfl⟩

end Go.Proofs.Ytkfolcmahbnenaa
