/- The model's InsOk: it answers insOk. -/
import Derived.Test.YtmiopbpahkgmbaaInsOk
namespace Go.Proofs.Ytmiopbpahkgmbaa
open Go.RowKit Go

theorem sReg_any (n : Int) (w : World) : Calls Try.prog 139 #[.int .i64 n] w (fun e w' => e = .returned (.bool (inO n 0 3)) ∧ w = w') := by
  have h1 := fun W => sIn_any n 0 3 W
  have h2 : decide (0 ≤ n ∧ n ≤ 3) = inO n 0 3 := rfl
  rw [h2] at h1
  replace h1 := Lib.hid h1
  clear h2
  generalize inO n 0 3 = x at *
  go_enter Try.func139, Try.ntmps139
  go_wp2_with fail
  refine (h1.out _).mono ?_
  rintro e w' ⟨rfl, rfl⟩
  go_wp2_with fail
  go_ret
  exact ⟨rfl, rfl⟩

set_option maxRecDepth 100000 in
set_option maxHeartbeats 1000000 in
theorem sOk_zzz (o a b c s : Int) (ho : o = 0 ∨ o = 12 ∨ o = 16) (hs : inO s 0 32 = true) (w : World) : Calls Try.prog 122 #[.agg #[.int .i64 o, .int .i64 a, .int .i64 b, .int .i64 c], .int .i64 s] w (Said (.bool (zB a && zB b && zB c)) w) := by
  have h0 := fun W => sIn_any s 0 32 W
  rw [show decide (0 ≤ s ∧ s ≤ 32) = true from hs] at h0
  replace h0 := Lib.hid h0
  clear hs
  rcases ho with rfl | rfl | rfl
  all_goals
    by_cases ka : a = 0
    · subst ka
      rw [zB_yes]
      by_cases kb : b = 0
      · subst kb
        rw [zB_yes]
        by_cases kc : c = 0
        · subst kc
          rw [zB_yes]
          go_enter Try.func122, Try.ntmps122
          go_wp2_with fail
          refine (h0.out _).mono ?_
          rintro e w' ⟨rfl, rfl⟩
          go_wp2_with fail
          go_ret
          exact ⟨ret_bool (by simp), below1 _ _⟩
        · rw [zB_no kc]
          have kc' : (c == 0) = false := by simpa using kc
          clear kc
          go_enter Try.func122, Try.ntmps122
          go_wp2_with fail
          refine (h0.out _).mono ?_
          rintro e w' ⟨rfl, rfl⟩
          go_wp2_with fail
          go_ret
          exact ⟨ret_bool (by simp), below1 _ _⟩
      · rw [zB_no kb]
        have kb' : (b == 0) = false := by simpa using kb
        clear kb
        go_enter Try.func122, Try.ntmps122
        go_wp2_with fail
        refine (h0.out _).mono ?_
        rintro e w' ⟨rfl, rfl⟩
        go_wp2_with fail
        go_ret
        exact ⟨ret_bool (by simp), below1 _ _⟩
    · rw [zB_no ka]
      have ka' : (a == 0) = false := by simpa using ka
      clear ka
      go_enter Try.func122, Try.ntmps122
      go_wp2_with fail
      refine (h0.out _).mono ?_
      rintro e w' ⟨rfl, rfl⟩
      go_wp2_with fail
      go_ret
      exact ⟨ret_bool (by simp), below1 _ _⟩

set_option maxRecDepth 100000 in
set_option maxHeartbeats 1000000 in
theorem sOk_rwz (a b c s : Int) (hs : inO s 0 32 = true) (w : World) : Calls Try.prog 122 #[.agg #[.int .i64 1, .int .i64 a, .int .i64 b, .int .i64 c], .int .i64 s] w (Said (.bool (inO a 0 3 && isW b && zB c)) w) := by
  have h0 := fun W => sIn_any s 0 32 W
  rw [show decide (0 ≤ s ∧ s ≤ 32) = true from hs] at h0
  replace h0 := Lib.hid h0
  clear hs
  have ha := fun W => sReg_any a W
  generalize inO a 0 3 = xa at *
  replace ha := Lib.hid ha
  have hb := fun W => sIsWord_any b W
  generalize isW b = xb at *
  replace hb := Lib.hid hb
  cases xa with
  | false =>
    go_enter Try.func122, Try.ntmps122
    go_wp2_with fail
    refine (h0.out _).mono ?_
    rintro e w' ⟨rfl, rfl⟩
    go_wp2_with fail
    refine (ha.out _).mono ?_
    rintro e w' ⟨rfl, rfl⟩
    go_wp2_with fail
    go_ret
    exact ⟨ret_bool (by simp), below1 _ _⟩
  | true =>
    cases xb with
    | false =>
      go_enter Try.func122, Try.ntmps122
      go_wp2_with fail
      refine (h0.out _).mono ?_
      rintro e w' ⟨rfl, rfl⟩
      go_wp2_with fail
      refine (ha.out _).mono ?_
      rintro e w' ⟨rfl, rfl⟩
      go_wp2_with fail
      refine (hb.out _).mono ?_
      rintro e w' ⟨rfl, rfl⟩
      go_wp2_with fail
      go_ret
      exact ⟨ret_bool (by simp), below1 _ _⟩
    | true =>
      by_cases kc : c = 0
      · subst kc
        rw [zB_yes]
        go_enter Try.func122, Try.ntmps122
        go_wp2_with fail
        refine (h0.out _).mono ?_
        rintro e w' ⟨rfl, rfl⟩
        go_wp2_with fail
        refine (ha.out _).mono ?_
        rintro e w' ⟨rfl, rfl⟩
        go_wp2_with fail
        refine (hb.out _).mono ?_
        rintro e w' ⟨rfl, rfl⟩
        go_wp2_with fail
        go_ret
        exact ⟨ret_bool (by simp), below1 _ _⟩
      · rw [zB_no kc]
        have kc' : (c == 0) = false := by simpa using kc
        clear kc
        go_enter Try.func122, Try.ntmps122
        go_wp2_with fail
        refine (h0.out _).mono ?_
        rintro e w' ⟨rfl, rfl⟩
        go_wp2_with fail
        refine (ha.out _).mono ?_
        rintro e w' ⟨rfl, rfl⟩
        go_wp2_with fail
        refine (hb.out _).mono ?_
        rintro e w' ⟨rfl, rfl⟩
        go_wp2_with fail
        go_ret
        exact ⟨ret_bool (by simp), below1 _ _⟩

set_option maxRecDepth 100000 in
set_option maxHeartbeats 1000000 in
theorem sOk_rrz (o a b c s : Int) (ho : o = 2 ∨ o = 13 ∨ o = 14 ∨ o = 15) (hs : inO s 0 32 = true) (w : World) : Calls Try.prog 122 #[.agg #[.int .i64 o, .int .i64 a, .int .i64 b, .int .i64 c], .int .i64 s] w (Said (.bool (inO a 0 3 && inO b 0 3 && zB c)) w) := by
  have h0 := fun W => sIn_any s 0 32 W
  rw [show decide (0 ≤ s ∧ s ≤ 32) = true from hs] at h0
  replace h0 := Lib.hid h0
  clear hs
  have ha := fun W => sReg_any a W
  generalize inO a 0 3 = xa at *
  replace ha := Lib.hid ha
  have hb := fun W => sReg_any b W
  generalize inO b 0 3 = xb at *
  replace hb := Lib.hid hb
  rcases ho with rfl | rfl | rfl | rfl
  all_goals
    cases xa with
    | false =>
      go_enter Try.func122, Try.ntmps122
      go_wp2_with fail
      refine (h0.out _).mono ?_
      rintro e w' ⟨rfl, rfl⟩
      go_wp2_with fail
      refine (ha.out _).mono ?_
      rintro e w' ⟨rfl, rfl⟩
      go_wp2_with fail
      go_ret
      exact ⟨ret_bool (by simp), below1 _ _⟩
    | true =>
      cases xb with
      | false =>
        go_enter Try.func122, Try.ntmps122
        go_wp2_with fail
        refine (h0.out _).mono ?_
        rintro e w' ⟨rfl, rfl⟩
        go_wp2_with fail
        refine (ha.out _).mono ?_
        rintro e w' ⟨rfl, rfl⟩
        go_wp2_with fail
        refine (hb.out _).mono ?_
        rintro e w' ⟨rfl, rfl⟩
        go_wp2_with fail
        go_ret
        exact ⟨ret_bool (by simp), below1 _ _⟩
      | true =>
        by_cases kc : c = 0
        · subst kc
          rw [zB_yes]
          go_enter Try.func122, Try.ntmps122
          go_wp2_with fail
          refine (h0.out _).mono ?_
          rintro e w' ⟨rfl, rfl⟩
          go_wp2_with fail
          refine (ha.out _).mono ?_
          rintro e w' ⟨rfl, rfl⟩
          go_wp2_with fail
          refine (hb.out _).mono ?_
          rintro e w' ⟨rfl, rfl⟩
          go_wp2_with fail
          go_ret
          exact ⟨ret_bool (by simp), below1 _ _⟩
        · rw [zB_no kc]
          have kc' : (c == 0) = false := by simpa using kc
          clear kc
          go_enter Try.func122, Try.ntmps122
          go_wp2_with fail
          refine (h0.out _).mono ?_
          rintro e w' ⟨rfl, rfl⟩
          go_wp2_with fail
          refine (ha.out _).mono ?_
          rintro e w' ⟨rfl, rfl⟩
          go_wp2_with fail
          refine (hb.out _).mono ?_
          rintro e w' ⟨rfl, rfl⟩
          go_wp2_with fail
          go_ret
          exact ⟨ret_bool (by simp), below1 _ _⟩

set_option maxRecDepth 100000 in
set_option maxHeartbeats 1000000 in
theorem sOk_rrr (o a b c s : Int) (ho : o = 3 ∨ o = 4 ∨ o = 5 ∨ o = 6 ∨ o = 7 ∨ o = 9) (hs : inO s 0 32 = true) (w : World) : Calls Try.prog 122 #[.agg #[.int .i64 o, .int .i64 a, .int .i64 b, .int .i64 c], .int .i64 s] w (Said (.bool (inO a 0 3 && inO b 0 3 && inO c 0 3)) w) := by
  have h0 := fun W => sIn_any s 0 32 W
  rw [show decide (0 ≤ s ∧ s ≤ 32) = true from hs] at h0
  replace h0 := Lib.hid h0
  clear hs
  have ha := fun W => sReg_any a W
  generalize inO a 0 3 = xa at *
  replace ha := Lib.hid ha
  have hb := fun W => sReg_any b W
  generalize inO b 0 3 = xb at *
  replace hb := Lib.hid hb
  have hc := fun W => sReg_any c W
  generalize inO c 0 3 = xc at *
  replace hc := Lib.hid hc
  have hO := fun W => sIn_any o 3 9 W
  rw [show decide (3 ≤ o ∧ o ≤ 9) = true from by simp; omega] at hO
  replace hO := Lib.hid hO
  have e0 : (o == 0) = false := by simp; omega
  have e1 : (o == 1) = false := by simp; omega
  have e2 : (o == 2) = false := by simp; omega
  have e8 : (o == 8) = false := by simp; omega
  have e10 : (o == 10) = false := by simp; omega
  have e11 : (o == 11) = false := by simp; omega
  have e12 : (o == 12) = false := by simp; omega
  have e13 : (o == 13) = false := by simp; omega
  have e14 : (o == 14) = false := by simp; omega
  have e15 : (o == 15) = false := by simp; omega
  have e16 : (o == 16) = false := by simp; omega
  clear ho
  cases xa with
  | false =>
    go_enter Try.func122, Try.ntmps122
    go_wp2_with fail
    refine (h0.out _).mono ?_
    rintro e w' ⟨rfl, rfl⟩
    go_wp2_with fail
    refine (hO.out _).mono ?_
    rintro e w' ⟨rfl, rfl⟩
    go_wp2_with fail
    refine (ha.out _).mono ?_
    rintro e w' ⟨rfl, rfl⟩
    go_wp2_with fail
    go_ret
    exact ⟨ret_bool (by simp), below1 _ _⟩
  | true =>
    cases xb with
    | false =>
      go_enter Try.func122, Try.ntmps122
      go_wp2_with fail
      refine (h0.out _).mono ?_
      rintro e w' ⟨rfl, rfl⟩
      go_wp2_with fail
      refine (hO.out _).mono ?_
      rintro e w' ⟨rfl, rfl⟩
      go_wp2_with fail
      refine (ha.out _).mono ?_
      rintro e w' ⟨rfl, rfl⟩
      go_wp2_with fail
      refine (hb.out _).mono ?_
      rintro e w' ⟨rfl, rfl⟩
      go_wp2_with fail
      go_ret
      exact ⟨ret_bool (by simp), below1 _ _⟩
    | true =>
      go_enter Try.func122, Try.ntmps122
      go_wp2_with fail
      refine (h0.out _).mono ?_
      rintro e w' ⟨rfl, rfl⟩
      go_wp2_with fail
      refine (hO.out _).mono ?_
      rintro e w' ⟨rfl, rfl⟩
      go_wp2_with fail
      refine (ha.out _).mono ?_
      rintro e w' ⟨rfl, rfl⟩
      go_wp2_with fail
      refine (hb.out _).mono ?_
      rintro e w' ⟨rfl, rfl⟩
      go_wp2_with fail
      refine (hc.out _).mono ?_
      rintro e w' ⟨rfl, rfl⟩
      go_wp2_with fail
      go_ret
      exact ⟨ret_bool (by simp), below1 _ _⟩

set_option maxRecDepth 100000 in
set_option maxHeartbeats 1000000 in
theorem sOk_rzz (a b c s : Int) (hs : inO s 0 32 = true) (w : World) : Calls Try.prog 122 #[.agg #[.int .i64 8, .int .i64 a, .int .i64 b, .int .i64 c], .int .i64 s] w (Said (.bool (inO a 0 3 && zB b && zB c)) w) := by
  have h0 := fun W => sIn_any s 0 32 W
  rw [show decide (0 ≤ s ∧ s ≤ 32) = true from hs] at h0
  replace h0 := Lib.hid h0
  clear hs
  have ha := fun W => sReg_any a W
  generalize inO a 0 3 = xa at *
  replace ha := Lib.hid ha
  cases xa with
  | false =>
    go_enter Try.func122, Try.ntmps122
    go_wp2_with fail
    refine (h0.out _).mono ?_
    rintro e w' ⟨rfl, rfl⟩
    go_wp2_with fail
    refine (ha.out _).mono ?_
    rintro e w' ⟨rfl, rfl⟩
    go_wp2_with fail
    go_ret
    exact ⟨ret_bool (by simp), below1 _ _⟩
  | true =>
    by_cases kb : b = 0
    · subst kb
      rw [zB_yes]
      by_cases kc : c = 0
      · subst kc
        rw [zB_yes]
        go_enter Try.func122, Try.ntmps122
        go_wp2_with fail
        refine (h0.out _).mono ?_
        rintro e w' ⟨rfl, rfl⟩
        go_wp2_with fail
        refine (ha.out _).mono ?_
        rintro e w' ⟨rfl, rfl⟩
        go_wp2_with fail
        go_ret
        exact ⟨ret_bool (by simp), below1 _ _⟩
      · rw [zB_no kc]
        have kc' : (c == 0) = false := by simpa using kc
        clear kc
        go_enter Try.func122, Try.ntmps122
        go_wp2_with fail
        refine (h0.out _).mono ?_
        rintro e w' ⟨rfl, rfl⟩
        go_wp2_with fail
        refine (ha.out _).mono ?_
        rintro e w' ⟨rfl, rfl⟩
        go_wp2_with fail
        go_ret
        exact ⟨ret_bool (by simp), below1 _ _⟩
    · rw [zB_no kb]
      have kb' : (b == 0) = false := by simpa using kb
      clear kb
      go_enter Try.func122, Try.ntmps122
      go_wp2_with fail
      refine (h0.out _).mono ?_
      rintro e w' ⟨rfl, rfl⟩
      go_wp2_with fail
      refine (ha.out _).mono ?_
      rintro e w' ⟨rfl, rfl⟩
      go_wp2_with fail
      go_ret
      exact ⟨ret_bool (by simp), below1 _ _⟩

set_option maxRecDepth 100000 in
set_option maxHeartbeats 1000000 in
theorem sOk_rtz (a b c s : Int) (hs : inO s 0 32 = true) (w : World) : Calls Try.prog 122 #[.agg #[.int .i64 10, .int .i64 a, .int .i64 b, .int .i64 c], .int .i64 s] w (Said (.bool (inO a 0 3 && inO b 0 s && zB c)) w) := by
  have h0 := fun W => sIn_any s 0 32 W
  rw [show decide (0 ≤ s ∧ s ≤ 32) = true from hs] at h0
  replace h0 := Lib.hid h0
  clear hs
  have ha := fun W => sReg_any a W
  generalize inO a 0 3 = xa at *
  replace ha := Lib.hid ha
  have hb := fun W => sIn_any b 0 s W
  rw [show decide (0 ≤ b ∧ b ≤ s) = inO b 0 s from rfl] at hb
  generalize inO b 0 s = xb at *
  replace hb := Lib.hid hb
  cases xa with
  | false =>
    go_enter Try.func122, Try.ntmps122
    go_wp2_with fail
    refine (h0.out _).mono ?_
    rintro e w' ⟨rfl, rfl⟩
    go_wp2_with fail
    refine (ha.out _).mono ?_
    rintro e w' ⟨rfl, rfl⟩
    go_wp2_with fail
    go_ret
    exact ⟨ret_bool (by simp), below1 _ _⟩
  | true =>
    cases xb with
    | false =>
      go_enter Try.func122, Try.ntmps122
      go_wp2_with fail
      refine (h0.out _).mono ?_
      rintro e w' ⟨rfl, rfl⟩
      go_wp2_with fail
      refine (ha.out _).mono ?_
      rintro e w' ⟨rfl, rfl⟩
      go_wp2_with fail
      refine (hb.out _).mono ?_
      rintro e w' ⟨rfl, rfl⟩
      go_wp2_with fail
      go_ret
      exact ⟨ret_bool (by simp), below1 _ _⟩
    | true =>
      by_cases kc : c = 0
      · subst kc
        rw [zB_yes]
        go_enter Try.func122, Try.ntmps122
        go_wp2_with fail
        refine (h0.out _).mono ?_
        rintro e w' ⟨rfl, rfl⟩
        go_wp2_with fail
        refine (ha.out _).mono ?_
        rintro e w' ⟨rfl, rfl⟩
        go_wp2_with fail
        refine (hb.out _).mono ?_
        rintro e w' ⟨rfl, rfl⟩
        go_wp2_with fail
        go_ret
        exact ⟨ret_bool (by simp), below1 _ _⟩
      · rw [zB_no kc]
        have kc' : (c == 0) = false := by simpa using kc
        clear kc
        go_enter Try.func122, Try.ntmps122
        go_wp2_with fail
        refine (h0.out _).mono ?_
        rintro e w' ⟨rfl, rfl⟩
        go_wp2_with fail
        refine (ha.out _).mono ?_
        rintro e w' ⟨rfl, rfl⟩
        go_wp2_with fail
        refine (hb.out _).mono ?_
        rintro e w' ⟨rfl, rfl⟩
        go_wp2_with fail
        go_ret
        exact ⟨ret_bool (by simp), below1 _ _⟩

set_option maxRecDepth 100000 in
set_option maxHeartbeats 1000000 in
theorem sOk_ztz (a b c s : Int) (hs : inO s 0 32 = true) (w : World) : Calls Try.prog 122 #[.agg #[.int .i64 11, .int .i64 a, .int .i64 b, .int .i64 c], .int .i64 s] w (Said (.bool (zB a && inO b 0 s && zB c)) w) := by
  have h0 := fun W => sIn_any s 0 32 W
  rw [show decide (0 ≤ s ∧ s ≤ 32) = true from hs] at h0
  replace h0 := Lib.hid h0
  clear hs
  have hb := fun W => sIn_any b 0 s W
  rw [show decide (0 ≤ b ∧ b ≤ s) = inO b 0 s from rfl] at hb
  generalize inO b 0 s = xb at *
  replace hb := Lib.hid hb
  by_cases ka : a = 0
  · subst ka
    rw [zB_yes]
    cases xb with
    | false =>
      go_enter Try.func122, Try.ntmps122
      go_wp2_with fail
      refine (h0.out _).mono ?_
      rintro e w' ⟨rfl, rfl⟩
      go_wp2_with fail
      refine (hb.out _).mono ?_
      rintro e w' ⟨rfl, rfl⟩
      go_wp2_with fail
      go_ret
      exact ⟨ret_bool (by simp), below1 _ _⟩
    | true =>
      by_cases kc : c = 0
      · subst kc
        rw [zB_yes]
        go_enter Try.func122, Try.ntmps122
        go_wp2_with fail
        refine (h0.out _).mono ?_
        rintro e w' ⟨rfl, rfl⟩
        go_wp2_with fail
        refine (hb.out _).mono ?_
        rintro e w' ⟨rfl, rfl⟩
        go_wp2_with fail
        go_ret
        exact ⟨ret_bool (by simp), below1 _ _⟩
      · rw [zB_no kc]
        have kc' : (c == 0) = false := by simpa using kc
        clear kc
        go_enter Try.func122, Try.ntmps122
        go_wp2_with fail
        refine (h0.out _).mono ?_
        rintro e w' ⟨rfl, rfl⟩
        go_wp2_with fail
        refine (hb.out _).mono ?_
        rintro e w' ⟨rfl, rfl⟩
        go_wp2_with fail
        go_ret
        exact ⟨ret_bool (by simp), below1 _ _⟩
  · rw [zB_no ka]
    have ka' : (a == 0) = false := by simpa using ka
    clear ka
    go_enter Try.func122, Try.ntmps122
    go_wp2_with fail
    refine (h0.out _).mono ?_
    rintro e w' ⟨rfl, rfl⟩
    go_wp2_with fail
    go_ret
    exact ⟨ret_bool (by simp), below1 _ _⟩

theorem sOk_size (o a b c s : Int) (hs : inO s 0 32 = false) (w : World) : Calls Try.prog 122 #[.agg #[.int .i64 o, .int .i64 a, .int .i64 b, .int .i64 c], .int .i64 s] w (Said (.bool false) w) := by
  have h0 := fun W => sIn_any s 0 32 W
  rw [show decide (0 ≤ s ∧ s ≤ 32) = false from hs] at h0
  replace h0 := Lib.hid h0
  clear hs
  go_enter Try.func122, Try.ntmps122
  go_wp2_with fail
  refine (h0.out _).mono ?_
  rintro e w' ⟨rfl, rfl⟩
  go_wp2_with fail
  go_ret
  exact ⟨rfl, below1 _ _⟩

set_option maxRecDepth 100000 in
set_option maxHeartbeats 1000000 in
theorem sOk_no (o a b c s : Int) (ho : inO o 0 16 = false) (hs : inO s 0 32 = true) (w : World) : Calls Try.prog 122 #[.agg #[.int .i64 o, .int .i64 a, .int .i64 b, .int .i64 c], .int .i64 s] w (Said (.bool false) w) := by
  have h0 := fun W => sIn_any s 0 32 W
  rw [show decide (0 ≤ s ∧ s ≤ 32) = true from hs] at h0
  have ho' := inO_not.1 ho
  have h1 := fun W => sIn_any o 3 9 W
  rw [show decide (3 ≤ o ∧ o ≤ 9) = false from inO_no (by omega)] at h1
  replace h0 := Lib.hid h0
  replace h1 := Lib.hid h1
  have e0 : (o == 0) = false := by simp; omega
  have e1 : (o == 1) = false := by simp; omega
  have e2 : (o == 2) = false := by simp; omega
  have e8 : (o == 8) = false := by simp; omega
  have e10 : (o == 10) = false := by simp; omega
  have e11 : (o == 11) = false := by simp; omega
  have e12 : (o == 12) = false := by simp; omega
  have e13 : (o == 13) = false := by simp; omega
  have e14 : (o == 14) = false := by simp; omega
  have e15 : (o == 15) = false := by simp; omega
  have e16 : (o == 16) = false := by simp; omega
  clear hs ho ho'
  go_enter Try.func122, Try.ntmps122
  go_wp2_with fail
  refine (h0.out _).mono ?_
  rintro e w' ⟨rfl, rfl⟩
  go_wp2_with fail
  refine (h1.out _).mono ?_
  rintro e w' ⟨rfl, rfl⟩
  go_wp2_with fail
  go_ret
  exact ⟨rfl, below1 _ _⟩

/-- Of the operations there are seventeen, of seven kinds. -/
theorem ops_in {o : Int} (h : inO o 0 16 = true) : (o = 0 ∨ o = 12 ∨ o = 16) ∨ o = 1 ∨ (o = 2 ∨ o = 13 ∨ o = 14 ∨ o = 15) ∨ (o = 3 ∨ o = 4 ∨ o = 5 ∨ o = 6 ∨ o = 7 ∨ o = 9) ∨ o = 8 ∨ o = 10 ∨ o = 11 := by
  have := inO_iff.1 h; omega

theorem sInsOk_any (o a b c s : Int) (w : World) : Calls Try.prog 122 #[.agg #[.int .i64 o, .int .i64 a, .int .i64 b, .int .i64 c], .int .i64 s] w (Said (.bool (insOk o a b c s)) w) := by
  unfold insOk
  cases hs : inO s 0 32 with
  | false => rw [if_neg (by simp)]; exact sOk_size o a b c s hs w
  | true =>
    cases ho : inO o 0 16 with
    | false => rw [if_neg (by simp)]; exact sOk_no o a b c s ho hs w
    | true =>
      rw [if_pos ⟨rfl, rfl⟩]
      rcases ops_in ho with h | rfl | h | h | rfl | rfl | rfl
      · have e : (chA o a && chB o b s && chC o c) = (zB a && zB b && zB c) := by rcases h with rfl | rfl | rfl <;> rfl
        rw [e]; exact sOk_zzz o a b c s h hs w
      · exact sOk_rwz a b c s hs w
      · have e : (chA o a && chB o b s && chC o c) = (inO a 0 3 && inO b 0 3 && zB c) := by rcases h with rfl | rfl | rfl | rfl <;> rfl
        rw [e]; exact sOk_rrz o a b c s h hs w
      · have e : (chA o a && chB o b s && chC o c) = (inO a 0 3 && inO b 0 3 && inO c 0 3) := by rcases h with rfl | rfl | rfl | rfl | rfl | rfl <;> rfl
        rw [e]; exact sOk_rrr o a b c s h hs w
      · exact sOk_rzz a b c s hs w
      · exact sOk_rtz a b c s hs w
      · exact sOk_ztz a b c s hs w

end Go.Proofs.Ytmiopbpahkgmbaa
