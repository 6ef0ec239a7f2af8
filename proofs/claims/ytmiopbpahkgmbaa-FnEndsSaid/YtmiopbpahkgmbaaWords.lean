/- The contracts of the words' functions, the program's and the model's. -/
import Derived.Test.YtmiopbpahkgmbaaBase
import Derived.Test.YtmiopbpahkgmbaaChecked
import Derived.IntWalk
namespace Go.Proofs.Ytmiopbpahkgmbaa
open Go.RowKit Go

/-- Is n a word? -/
def isW (n : Int) : Bool := decide (0 ≤ n ∧ n < 65536)
theorem isW_mk {n : Int} (h0 : 0 ≤ n) (h1 : n < 65536) : isW n = true := by unfold isW; simp; omega
theorem isW_iff {n : Int} : isW n = true ↔ 0 ≤ n ∧ n < 65536 := by unfold isW; simp
theorem isW_not {n : Int} : isW n = false ↔ ¬ (0 ≤ n ∧ n < 65536) := by unfold isW; simp only [decide_eq_false_iff_not]
theorem ret_bool {a b : Bool} (h : a = b) : Ending.returned (.bool a) = .returned (.bool b) := by rw [h]
/-- What an operation makes of two numbers, if both are words. -/
def ofWords (f : Int → Int → Int) (a b : Int) : Int := if isW a = true ∧ isW b = true then f a b else 0
def addW (a b : Int) : Int := ofWords (fun a b => (a + b) % 65536) a b
def subW (a b : Int) : Int := ofWords (fun a b => (a - b) % 65536) a b
def mulW (a b : Int) : Int := ofWords (fun a b => (a * b) % 65536) a b
def lessW (a b : Int) : Int := ofWords (fun a b => if a < b then 1 else 0) a b
theorem isW_mod (n : Int) : isW (n % 65536) = true := isW_mk (Int.emod_nonneg _ (by omega)) (Int.emod_lt_of_pos _ (by omega))

theorem u16_mod (n : Int) : IntKind.u16.wrap n = n % 65536 := by simp [IntKind.wrap, IntKind.bits, IntKind.signed]
theorem wrap_mod (n : Int) : wrap64 (n % 65536) = n % 65536 := IntWalk.wrap64_in _ (by omega)

theorem pIsWord_any (n : Int) (w : World) : Calls Try.prog 58 #[.int .i64 n] w (fun e w' => e = .returned (.bool (isW n)) ∧ w = w') := by
  by_cases h0 : 0 ≤ n
  · have e : isW n = decide (n < 65536) := by unfold isW; simp [h0]
    rw [e]
    go_enter Try.func58, Try.ntmps58
    go_wp2
    go_ret
    exact ⟨rfl, rfl⟩
  · have e : isW n = false := by unfold isW; simp [h0]
    rw [e]
    have hd : decide (0 ≤ n) = false := by simpa using h0
    go_enter Try.func58, Try.ntmps58
    go_wp2
    go_ret
    exact ⟨rfl, rfl⟩

theorem sIn_any (n a b : Int) (w : World) : Calls Try.prog 78 #[.int .i64 n, .int .i64 a, .int .i64 b] w (fun e w' => e = .returned (.bool (decide (a ≤ n ∧ n ≤ b))) ∧ w = w') := by
  by_cases h0 : a ≤ n
  · have e : decide (a ≤ n ∧ n ≤ b) = decide (n ≤ b) := by simp [h0]
    rw [e]
    go_enter Try.func78, Try.ntmps78
    go_wp2
    go_ret
    exact ⟨rfl, rfl⟩
  · have e : decide (a ≤ n ∧ n ≤ b) = false := by simp [h0]
    rw [e]
    have hd : decide (a ≤ n) = false := by simpa using h0
    go_enter Try.func78, Try.ntmps78
    go_wp2
    go_ret
    exact ⟨rfl, rfl⟩

theorem sIsWord_any (n : Int) (w : World) : Calls Try.prog 123 #[.int .i64 n] w (fun e w' => e = .returned (.bool (isW n)) ∧ w = w') := by
  have e : decide (0 ≤ n ∧ n ≤ 65535) = isW n := by unfold isW; congr 1; apply propext; omega
  have HE := Lib.hid e
  clear e
  go_enter Try.func123, Try.ntmps123
  go_wp2_with fail
  refine (sIn_any n 0 65535 _).mono ?_
  rw [HE.out]
  rintro e w' ⟨rfl, rfl⟩
  go_wp2_with fail
  go_ret
  exact ⟨rfl, rfl⟩

theorem sWrap_any (n : Int) (w : World) : Calls Try.prog 140 #[.int .i64 n] w (fun e w' => e = .returned (.int .i64 (n % 65536)) ∧ w = w') := by
  have hb0 : -65536 < Int.tmod n 65536 := Int.lt_tmod_of_pos n (by omega)
  have hb1 : Int.tmod n 65536 < 65536 := Int.tmod_lt_of_pos n (by omega)
  have he : (Int.tmod n 65536 + 65536) % 65536 = n % 65536 := by rw [Int.add_emod_right]; have := Int.tmod_def n 65536; have := Int.emod_def n 65536; omega
  have HE := Lib.hid he
  clear he
  go_enter Try.func140, Try.ntmps140
  go_wp2
  go_ret
  exact ⟨ret_int HE.out, rfl⟩

theorem pPlus_any (a b : Int) (w : World) : Calls Try.prog 142 #[.int .u16 a, .int .u16 b] w (fun e w' => e = .returned (.int .u16 ((a + b) % 65536)) ∧ w = w') := by
  go_enter Try.func142, Try.ntmps142
  go_wp2
  go_ret
  exact ⟨ret_int (u16_mod _), rfl⟩

theorem pMinus_any (a b : Int) (w : World) : Calls Try.prog 143 #[.int .u16 a, .int .u16 b] w (fun e w' => e = .returned (.int .u16 ((a - b) % 65536)) ∧ w = w') := by
  go_enter Try.func143, Try.ntmps143
  go_wp2
  go_ret
  exact ⟨ret_int (u16_mod _), rfl⟩

theorem pTimes_any (a b : Int) (w : World) : Calls Try.prog 144 #[.int .u16 a, .int .u16 b] w (fun e w' => e = .returned (.int .u16 ((a * b) % 65536)) ∧ w = w') := by
  go_enter Try.func144, Try.ntmps144
  go_wp2
  go_ret
  exact ⟨ret_int (u16_mod _), rfl⟩

theorem pLess_any (a b : Int) (w : World) : Calls Try.prog 145 #[.int .u16 a, .int .u16 b] w (fun e w' => e = .returned (.int .u16 (if a < b then 1 else 0)) ∧ w = w') := by
  by_cases h : a < b
  · rw [if_pos h]
    go_enter Try.func145, Try.ntmps145
    go_wp2
    go_ret
    exact ⟨rfl, rfl⟩
  · rw [if_neg h]
    go_enter Try.func145, Try.ntmps145
    go_wp2
    go_ret
    exact ⟨rfl, rfl⟩

set_option maxRecDepth 100000 in
set_option maxHeartbeats 400000 in
theorem pJoin_no (a b : Int) (f : Value) (h : ¬ (isW a = true ∧ isW b = true)) (w : World) : Calls Try.prog 141 #[.int .i64 a, .int .i64 b, f] w (fun e w' => e = .returned (.int .i64 0) ∧ w = w') := by
  cases ha : isW a with
  | false =>
    have A := Lib.hid ha
    clear ha h
    go_enter Try.func141, Try.ntmps141
    go_wp2_with fail
    refine (pIsWord_any a _).mono ?_
    rw [A.out]
    rintro e w' ⟨rfl, rfl⟩
    go_wp2_with fail
    go_ret
    exact ⟨rfl, rfl⟩
  | true =>
    cases hb : isW b with
    | true => exact absurd ⟨ha, hb⟩ h
    | false =>
      have A := Lib.hid ha
      have B := Lib.hid hb
      clear ha hb h
      go_enter Try.func141, Try.ntmps141
      go_wp2_with fail
      refine (pIsWord_any a _).mono ?_
      rw [A.out]
      rintro e w' ⟨rfl, rfl⟩
      go_wp2_with fail
      refine (pIsWord_any b _).mono ?_
      rw [B.out]
      rintro e w' ⟨rfl, rfl⟩
      go_wp2_with fail
      go_ret
      exact ⟨rfl, rfl⟩

theorem isW_both {a b : Int} (h : isW a = true ∧ isW b = true) : (0 ≤ a ∧ a < 65536) ∧ 0 ≤ b ∧ b < 65536 := ⟨isW_iff.1 h.1, isW_iff.1 h.2⟩

set_option maxRecDepth 100000 in
set_option maxHeartbeats 400000 in
theorem pJoin_plus (a b : Int) (h : isW a = true ∧ isW b = true) (w : World) :
    Calls Try.prog 141 #[.int .i64 a, .int .i64 b, .func (.func 142) #[] #[]] w (fun e w' => e = .returned (.int .i64 ((a + b) % 65536)) ∧ w = w') := by
  obtain ⟨⟨a0, a1⟩, b0, b1⟩ := isW_both h
  have A := Lib.hid h.1
  have B := Lib.hid h.2
  clear h
  have hx : 0 ≤ (a + b) % 65536 ∧ (a + b) % 65536 < 65536 := by exact ⟨Int.emod_nonneg _ (by omega), Int.emod_lt_of_pos _ (by omega)⟩
  obtain ⟨x0, x1⟩ := hx
  obtain ⟨x, hx⟩ : ∃ x, x = (a + b) % 65536 := ⟨_, rfl⟩
  rw [← hx] at x0 x1
  have X := Lib.hid hx
  have hF : ∀ W, Calls Try.prog 142 #[.int .u16 a, .int .u16 b] W (fun e w' => e = .returned (.int .u16 x) ∧ W = w') := fun W => by
    rw [hx]
    exact pPlus_any a b W
  have HF := Lib.hid hF
  rw [← hx]
  clear hF hx X
  go_enter Try.func141, Try.ntmps141
  go_wp2_with fail
  refine (pIsWord_any a _).mono ?_
  rw [A.out]
  rintro e w' ⟨rfl, rfl⟩
  go_wp2_with fail
  refine (pIsWord_any b _).mono ?_
  rw [B.out]
  rintro e w' ⟨rfl, rfl⟩
  go_wp2_with fail
  refine (HF.out _).mono ?_
  rintro e w' ⟨rfl, rfl⟩
  go_wp2_with fail
  go_ret
  exact ⟨rfl, rfl⟩

set_option maxRecDepth 100000 in
set_option maxHeartbeats 400000 in
theorem pJoin_minus (a b : Int) (h : isW a = true ∧ isW b = true) (w : World) :
    Calls Try.prog 141 #[.int .i64 a, .int .i64 b, .func (.func 143) #[] #[]] w (fun e w' => e = .returned (.int .i64 ((a - b) % 65536)) ∧ w = w') := by
  obtain ⟨⟨a0, a1⟩, b0, b1⟩ := isW_both h
  have A := Lib.hid h.1
  have B := Lib.hid h.2
  clear h
  have hx : 0 ≤ (a - b) % 65536 ∧ (a - b) % 65536 < 65536 := by exact ⟨Int.emod_nonneg _ (by omega), Int.emod_lt_of_pos _ (by omega)⟩
  obtain ⟨x0, x1⟩ := hx
  obtain ⟨x, hx⟩ : ∃ x, x = (a - b) % 65536 := ⟨_, rfl⟩
  rw [← hx] at x0 x1
  have X := Lib.hid hx
  have hF : ∀ W, Calls Try.prog 143 #[.int .u16 a, .int .u16 b] W (fun e w' => e = .returned (.int .u16 x) ∧ W = w') := fun W => by
    rw [hx]
    exact pMinus_any a b W
  have HF := Lib.hid hF
  rw [← hx]
  clear hF hx X
  go_enter Try.func141, Try.ntmps141
  go_wp2_with fail
  refine (pIsWord_any a _).mono ?_
  rw [A.out]
  rintro e w' ⟨rfl, rfl⟩
  go_wp2_with fail
  refine (pIsWord_any b _).mono ?_
  rw [B.out]
  rintro e w' ⟨rfl, rfl⟩
  go_wp2_with fail
  refine (HF.out _).mono ?_
  rintro e w' ⟨rfl, rfl⟩
  go_wp2_with fail
  go_ret
  exact ⟨rfl, rfl⟩

set_option maxRecDepth 100000 in
set_option maxHeartbeats 400000 in
theorem pJoin_times (a b : Int) (h : isW a = true ∧ isW b = true) (w : World) :
    Calls Try.prog 141 #[.int .i64 a, .int .i64 b, .func (.func 144) #[] #[]] w (fun e w' => e = .returned (.int .i64 ((a * b) % 65536)) ∧ w = w') := by
  obtain ⟨⟨a0, a1⟩, b0, b1⟩ := isW_both h
  have A := Lib.hid h.1
  have B := Lib.hid h.2
  clear h
  have hx : 0 ≤ (a * b) % 65536 ∧ (a * b) % 65536 < 65536 := by exact ⟨Int.emod_nonneg _ (by omega), Int.emod_lt_of_pos _ (by omega)⟩
  obtain ⟨x0, x1⟩ := hx
  obtain ⟨x, hx⟩ : ∃ x, x = (a * b) % 65536 := ⟨_, rfl⟩
  rw [← hx] at x0 x1
  have X := Lib.hid hx
  have hF : ∀ W, Calls Try.prog 144 #[.int .u16 a, .int .u16 b] W (fun e w' => e = .returned (.int .u16 x) ∧ W = w') := fun W => by
    rw [hx]
    exact pTimes_any a b W
  have HF := Lib.hid hF
  rw [← hx]
  clear hF hx X
  go_enter Try.func141, Try.ntmps141
  go_wp2_with fail
  refine (pIsWord_any a _).mono ?_
  rw [A.out]
  rintro e w' ⟨rfl, rfl⟩
  go_wp2_with fail
  refine (pIsWord_any b _).mono ?_
  rw [B.out]
  rintro e w' ⟨rfl, rfl⟩
  go_wp2_with fail
  refine (HF.out _).mono ?_
  rintro e w' ⟨rfl, rfl⟩
  go_wp2_with fail
  go_ret
  exact ⟨rfl, rfl⟩

set_option maxRecDepth 100000 in
set_option maxHeartbeats 400000 in
theorem pJoin_less (a b : Int) (h : isW a = true ∧ isW b = true) (w : World) :
    Calls Try.prog 141 #[.int .i64 a, .int .i64 b, .func (.func 145) #[] #[]] w (fun e w' => e = .returned (.int .i64 ((if a < b then (1 : Int) else 0))) ∧ w = w') := by
  obtain ⟨⟨a0, a1⟩, b0, b1⟩ := isW_both h
  have A := Lib.hid h.1
  have B := Lib.hid h.2
  clear h
  have hx : 0 ≤ (if a < b then (1 : Int) else 0) ∧ (if a < b then (1 : Int) else 0) < 65536 := by split <;> omega
  obtain ⟨x0, x1⟩ := hx
  obtain ⟨x, hx⟩ : ∃ x, x = (if a < b then (1 : Int) else 0) := ⟨_, rfl⟩
  rw [← hx] at x0 x1
  have X := Lib.hid hx
  have hF : ∀ W, Calls Try.prog 145 #[.int .u16 a, .int .u16 b] W (fun e w' => e = .returned (.int .u16 x) ∧ W = w') := fun W => by
    rw [hx]
    exact pLess_any a b W
  have HF := Lib.hid hF
  rw [← hx]
  clear hF hx X
  go_enter Try.func141, Try.ntmps141
  go_wp2_with fail
  refine (pIsWord_any a _).mono ?_
  rw [A.out]
  rintro e w' ⟨rfl, rfl⟩
  go_wp2_with fail
  refine (pIsWord_any b _).mono ?_
  rw [B.out]
  rintro e w' ⟨rfl, rfl⟩
  go_wp2_with fail
  refine (HF.out _).mono ?_
  rintro e w' ⟨rfl, rfl⟩
  go_wp2_with fail
  go_ret
  exact ⟨rfl, rfl⟩

theorem pAdd_any (a b : Int) (w : World) : Calls Try.prog 129 #[.int .i64 a, .int .i64 b] w (fun e w' => e = .returned (.int .i64 (addW a b)) ∧ w = w') := by
  by_cases h : isW a = true ∧ isW b = true
  · unfold addW ofWords
    rw [if_pos h]
    have H := Lib.hid h
    clear h
    go_enter Try.func129, Try.ntmps129
    go_wp2_with fail
    refine (pJoin_plus a b H.out _).mono ?_
    rintro e w' ⟨rfl, rfl⟩
    go_wp2_with fail
    go_ret
    exact ⟨rfl, rfl⟩
  · unfold addW ofWords
    rw [if_neg h]
    have H := Lib.hid h
    clear h
    go_enter Try.func129, Try.ntmps129
    go_wp2_with fail
    refine (pJoin_no a b _ H.out _).mono ?_
    rintro e w' ⟨rfl, rfl⟩
    go_wp2_with fail
    go_ret
    exact ⟨rfl, rfl⟩

theorem pSub_any (a b : Int) (w : World) : Calls Try.prog 130 #[.int .i64 a, .int .i64 b] w (fun e w' => e = .returned (.int .i64 (subW a b)) ∧ w = w') := by
  by_cases h : isW a = true ∧ isW b = true
  · unfold subW ofWords
    rw [if_pos h]
    have H := Lib.hid h
    clear h
    go_enter Try.func130, Try.ntmps130
    go_wp2_with fail
    refine (pJoin_minus a b H.out _).mono ?_
    rintro e w' ⟨rfl, rfl⟩
    go_wp2_with fail
    go_ret
    exact ⟨rfl, rfl⟩
  · unfold subW ofWords
    rw [if_neg h]
    have H := Lib.hid h
    clear h
    go_enter Try.func130, Try.ntmps130
    go_wp2_with fail
    refine (pJoin_no a b _ H.out _).mono ?_
    rintro e w' ⟨rfl, rfl⟩
    go_wp2_with fail
    go_ret
    exact ⟨rfl, rfl⟩

theorem pMul_any (a b : Int) (w : World) : Calls Try.prog 131 #[.int .i64 a, .int .i64 b] w (fun e w' => e = .returned (.int .i64 (mulW a b)) ∧ w = w') := by
  by_cases h : isW a = true ∧ isW b = true
  · unfold mulW ofWords
    rw [if_pos h]
    have H := Lib.hid h
    clear h
    go_enter Try.func131, Try.ntmps131
    go_wp2_with fail
    refine (pJoin_times a b H.out _).mono ?_
    rintro e w' ⟨rfl, rfl⟩
    go_wp2_with fail
    go_ret
    exact ⟨rfl, rfl⟩
  · unfold mulW ofWords
    rw [if_neg h]
    have H := Lib.hid h
    clear h
    go_enter Try.func131, Try.ntmps131
    go_wp2_with fail
    refine (pJoin_no a b _ H.out _).mono ?_
    rintro e w' ⟨rfl, rfl⟩
    go_wp2_with fail
    go_ret
    exact ⟨rfl, rfl⟩

theorem pLessW_any (a b : Int) (w : World) : Calls Try.prog 132 #[.int .i64 a, .int .i64 b] w (fun e w' => e = .returned (.int .i64 (lessW a b)) ∧ w = w') := by
  by_cases h : isW a = true ∧ isW b = true
  · unfold lessW ofWords
    rw [if_pos h]
    have hJ := fun W => pJoin_less a b h W
    dsimp only
    generalize (if a < b then (1 : Int) else 0) = x at *
    have HJ := Lib.hid hJ
    clear h hJ
    go_enter Try.func132, Try.ntmps132
    go_wp2_with fail
    refine (HJ.out _).mono ?_
    rintro e w' ⟨rfl, rfl⟩
    go_wp2_with fail
    go_ret
    exact ⟨rfl, rfl⟩
  · unfold lessW ofWords
    rw [if_neg h]
    have H := Lib.hid h
    clear h
    go_enter Try.func132, Try.ntmps132
    go_wp2_with fail
    refine (pJoin_no a b _ H.out _).mono ?_
    rintro e w' ⟨rfl, rfl⟩
    go_wp2_with fail
    go_ret
    exact ⟨rfl, rfl⟩

set_option maxRecDepth 100000 in
set_option maxHeartbeats 400000 in
theorem sAdd_any (a b : Int) (w : World) : Calls Try.prog 124 #[.int .i64 a, .int .i64 b] w (fun e w' => e = .returned (.int .i64 (addW a b)) ∧ w = w') := by
  by_cases h : isW a = true ∧ isW b = true
  · unfold addW ofWords
    rw [if_pos h]
    obtain ⟨⟨a0, a1⟩, b0, b1⟩ := isW_both h
    have A := Lib.hid h.1
    have B := Lib.hid h.2
    clear h
    go_enter Try.func124, Try.ntmps124
    go_wp2_with fail
    refine (sIsWord_any a _).mono ?_
    rw [A.out]
    rintro e w' ⟨rfl, rfl⟩
    go_wp2_with fail
    refine (sIsWord_any b _).mono ?_
    rw [B.out]
    rintro e w' ⟨rfl, rfl⟩
    go_wp2_with fail
    refine (sWrap_any _ _).mono ?_
    rintro e w' ⟨rfl, rfl⟩
    go_wp2_with fail
    go_ret
    exact ⟨rfl, rfl⟩
  · unfold addW ofWords
    rw [if_neg h]
    cases ha : isW a with
    | false =>
      have A := Lib.hid ha
      clear ha h
      go_enter Try.func124, Try.ntmps124
      go_wp2_with fail
      refine (sIsWord_any a _).mono ?_
      rw [A.out]
      rintro e w' ⟨rfl, rfl⟩
      go_wp2_with fail
      go_ret
      exact ⟨rfl, rfl⟩
    | true =>
      cases hb : isW b with
      | true => exact absurd ⟨ha, hb⟩ h
      | false =>
        have A := Lib.hid ha
        have B := Lib.hid hb
        clear ha hb h
        go_enter Try.func124, Try.ntmps124
        go_wp2_with fail
        refine (sIsWord_any a _).mono ?_
        rw [A.out]
        rintro e w' ⟨rfl, rfl⟩
        go_wp2_with fail
        refine (sIsWord_any b _).mono ?_
        rw [B.out]
        rintro e w' ⟨rfl, rfl⟩
        go_wp2_with fail
        go_ret
        exact ⟨rfl, rfl⟩

set_option maxRecDepth 100000 in
set_option maxHeartbeats 400000 in
theorem sSub_any (a b : Int) (w : World) : Calls Try.prog 125 #[.int .i64 a, .int .i64 b] w (fun e w' => e = .returned (.int .i64 (subW a b)) ∧ w = w') := by
  by_cases h : isW a = true ∧ isW b = true
  · unfold subW ofWords
    rw [if_pos h]
    obtain ⟨⟨a0, a1⟩, b0, b1⟩ := isW_both h
    have A := Lib.hid h.1
    have B := Lib.hid h.2
    clear h
    go_enter Try.func125, Try.ntmps125
    go_wp2_with fail
    refine (sIsWord_any a _).mono ?_
    rw [A.out]
    rintro e w' ⟨rfl, rfl⟩
    go_wp2_with fail
    refine (sIsWord_any b _).mono ?_
    rw [B.out]
    rintro e w' ⟨rfl, rfl⟩
    go_wp2_with fail
    refine (sWrap_any _ _).mono ?_
    rintro e w' ⟨rfl, rfl⟩
    go_wp2_with fail
    go_ret
    exact ⟨rfl, rfl⟩
  · unfold subW ofWords
    rw [if_neg h]
    cases ha : isW a with
    | false =>
      have A := Lib.hid ha
      clear ha h
      go_enter Try.func125, Try.ntmps125
      go_wp2_with fail
      refine (sIsWord_any a _).mono ?_
      rw [A.out]
      rintro e w' ⟨rfl, rfl⟩
      go_wp2_with fail
      go_ret
      exact ⟨rfl, rfl⟩
    | true =>
      cases hb : isW b with
      | true => exact absurd ⟨ha, hb⟩ h
      | false =>
        have A := Lib.hid ha
        have B := Lib.hid hb
        clear ha hb h
        go_enter Try.func125, Try.ntmps125
        go_wp2_with fail
        refine (sIsWord_any a _).mono ?_
        rw [A.out]
        rintro e w' ⟨rfl, rfl⟩
        go_wp2_with fail
        refine (sIsWord_any b _).mono ?_
        rw [B.out]
        rintro e w' ⟨rfl, rfl⟩
        go_wp2_with fail
        go_ret
        exact ⟨rfl, rfl⟩

set_option maxRecDepth 100000 in
set_option maxHeartbeats 400000 in
theorem sMul_any (a b : Int) (w : World) : Calls Try.prog 126 #[.int .i64 a, .int .i64 b] w (fun e w' => e = .returned (.int .i64 (mulW a b)) ∧ w = w') := by
  by_cases h : isW a = true ∧ isW b = true
  · unfold mulW ofWords
    rw [if_pos h]
    obtain ⟨⟨a0, a1⟩, b0, b1⟩ := isW_both h
    have A := Lib.hid h.1
    have B := Lib.hid h.2
    clear h
    have m0 : 0 ≤ a * b := Int.mul_nonneg a0 b0
    have m1 : a * b ≤ 65535 * 65535 := Int.mul_le_mul (by omega) (by omega) b0 (by omega)
    go_enter Try.func126, Try.ntmps126
    go_wp2_with fail
    refine (sIsWord_any a _).mono ?_
    rw [A.out]
    rintro e w' ⟨rfl, rfl⟩
    go_wp2_with fail
    refine (sIsWord_any b _).mono ?_
    rw [B.out]
    rintro e w' ⟨rfl, rfl⟩
    go_wp2_with fail
    refine (sWrap_any _ _).mono ?_
    rintro e w' ⟨rfl, rfl⟩
    go_wp2_with fail
    go_ret
    exact ⟨rfl, rfl⟩
  · unfold mulW ofWords
    rw [if_neg h]
    cases ha : isW a with
    | false =>
      have A := Lib.hid ha
      clear ha h
      go_enter Try.func126, Try.ntmps126
      go_wp2_with fail
      refine (sIsWord_any a _).mono ?_
      rw [A.out]
      rintro e w' ⟨rfl, rfl⟩
      go_wp2_with fail
      go_ret
      exact ⟨rfl, rfl⟩
    | true =>
      cases hb : isW b with
      | true => exact absurd ⟨ha, hb⟩ h
      | false =>
        have A := Lib.hid ha
        have B := Lib.hid hb
        clear ha hb h
        go_enter Try.func126, Try.ntmps126
        go_wp2_with fail
        refine (sIsWord_any a _).mono ?_
        rw [A.out]
        rintro e w' ⟨rfl, rfl⟩
        go_wp2_with fail
        refine (sIsWord_any b _).mono ?_
        rw [B.out]
        rintro e w' ⟨rfl, rfl⟩
        go_wp2_with fail
        go_ret
        exact ⟨rfl, rfl⟩

set_option maxRecDepth 100000 in
set_option maxHeartbeats 400000 in
theorem sLess_any (a b : Int) (w : World) : Calls Try.prog 127 #[.int .i64 a, .int .i64 b] w (fun e w' => e = .returned (.int .i64 (lessW a b)) ∧ w = w') := by
  unfold lessW ofWords
  cases ha : isW a with
  | false =>
    rw [if_neg (by simp)]
    have A := Lib.hid ha
    clear ha
    go_enter Try.func127, Try.ntmps127
    go_wp2_with fail
    refine (sIsWord_any a _).mono ?_
    rw [A.out]
    rintro e w' ⟨rfl, rfl⟩
    go_wp2_with fail
    go_ret
    exact ⟨rfl, rfl⟩
  | true =>
    cases hb : isW b with
    | false =>
      rw [if_neg (by simp)]
      have A := Lib.hid ha
      have B := Lib.hid hb
      clear ha hb
      go_enter Try.func127, Try.ntmps127
      go_wp2_with fail
      refine (sIsWord_any a _).mono ?_
      rw [A.out]
      rintro e w' ⟨rfl, rfl⟩
      go_wp2_with fail
      refine (sIsWord_any b _).mono ?_
      rw [B.out]
      rintro e w' ⟨rfl, rfl⟩
      go_wp2_with fail
      go_ret
      exact ⟨rfl, rfl⟩
    | true =>
      rw [if_pos ⟨rfl, rfl⟩]
      dsimp only
      have A := Lib.hid ha
      have B := Lib.hid hb
      clear ha hb
      by_cases hlt : a < b
      · rw [if_pos hlt]
        go_enter Try.func127, Try.ntmps127
        go_wp2_with fail
        refine (sIsWord_any a _).mono ?_
        rw [A.out]
        rintro e w' ⟨rfl, rfl⟩
        go_wp2_with fail
        refine (sIsWord_any b _).mono ?_
        rw [B.out]
        rintro e w' ⟨rfl, rfl⟩
        go_wp2_with fail
        go_ret
        exact ⟨rfl, rfl⟩
      · rw [if_neg hlt]
        go_enter Try.func127, Try.ntmps127
        go_wp2_with fail
        refine (sIsWord_any a _).mono ?_
        rw [A.out]
        rintro e w' ⟨rfl, rfl⟩
        go_wp2_with fail
        refine (sIsWord_any b _).mono ?_
        rw [B.out]
        rintro e w' ⟨rfl, rfl⟩
        go_wp2_with fail
        go_ret
        exact ⟨rfl, rfl⟩

end Go.Proofs.Ytmiopbpahkgmbaa
