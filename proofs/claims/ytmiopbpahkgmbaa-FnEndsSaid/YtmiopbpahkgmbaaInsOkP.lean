/- The program's InsOk: it answers insOk. -/
import Derived.Test.YtmiopbpahkgmbaaChecks
import Derived.Shelf.Abstract
namespace Go.Proofs.Ytmiopbpahkgmbaa
open Go.RowKit Go

/-- A check of a field: a function that is handed on as a value. -/
def Chk (F : FuncId) (p : Int → Int → Bool) : Prop :=
  (∀ args w, (callFunc F args).run Try.prog w = .ok (.enter F args) w) ∧
  ∀ v s w, Calls Try.prog F #[.int .i64 v, .int .i64 s] w (fun e w' => e = .returned (.bool (p v s)) ∧ w = w')

theorem chk_unused : Chk 98 (fun v _ => zB v) := by
  refine ⟨enters_of Try.func98 (by kernel_rfl) rfl, fun v s w => ?_⟩
  dsimp only
  by_cases h : v = 0
  · subst h
    go_enter Try.func98, Try.ntmps98
    go_wp2
    go_ret
    exact ⟨rfl, rfl⟩
  · have h' : (v == 0) = false := by simpa using h
    have e := zB_no h
    rw [e]
    clear e h
    go_enter Try.func98, Try.ntmps98
    go_wp2
    go_ret
    exact ⟨rfl, rfl⟩

theorem chk_reg : Chk 99 (fun v _ => inO v 0 3) := by
  refine ⟨enters_of Try.func99 (by kernel_rfl) rfl, fun v s w => ?_⟩
  dsimp only
  by_cases h0 : 0 ≤ v
  · have e : inO v 0 3 = decide (v < 4) := by unfold inO; simp [h0]; omega
    rw [e]
    go_enter Try.func99, Try.ntmps99
    go_wp2
    go_ret
    exact ⟨rfl, rfl⟩
  · rw [inO_no (by omega)]
    have hd : decide (0 ≤ v) = false := by simpa using h0
    go_enter Try.func99, Try.ntmps99
    go_wp2
    go_ret
    exact ⟨rfl, rfl⟩

theorem chk_const : Chk 100 (fun v _ => isW v) := by
  refine ⟨enters_of Try.func100 (by kernel_rfl) rfl, fun v s w => ?_⟩
  dsimp only
  go_enter Try.func100, Try.ntmps100
  go_wp2_with fail
  refine (pIsWord_any v _).mono ?_
  rintro e w' ⟨rfl, rfl⟩
  go_wp2_with fail
  go_ret
  exact ⟨rfl, rfl⟩

theorem chk_target : Chk 101 (fun v s => inO v 0 s) := by
  refine ⟨enters_of Try.func101 (by kernel_rfl) rfl, fun v s w => ?_⟩
  dsimp only
  by_cases h0 : 0 ≤ v
  · have e : inO v 0 s = decide (v ≤ s) := by unfold inO; simp [h0]
    rw [e]
    go_enter Try.func101, Try.ntmps101
    go_wp2
    go_ret
    exact ⟨rfl, rfl⟩
  · rw [inO_no (by omega)]
    have hd : decide (0 ≤ v) = false := by simpa using h0
    go_enter Try.func101, Try.ntmps101
    go_wp2
    go_ret
    exact ⟨rfl, rfl⟩

theorem pIsOp_any (o : Int) (w : World) : Calls Try.prog 83 #[.int .i64 o] w (fun e w' => e = .returned (.bool (inO o 0 16)) ∧ w = w') := by
  by_cases h0 : 0 ≤ o
  · have e : inO o 0 16 = decide (o ≤ 16) := by unfold inO; simp [h0]
    rw [e]
    go_enter Try.func83, Try.ntmps83
    go_wp2
    go_ret
    exact ⟨rfl, rfl⟩
  · rw [inO_no (by omega)]
    have hd : decide (0 ≤ o) = false := by simpa using h0
    go_enter Try.func83, Try.ntmps83
    go_wp2
    go_ret
    exact ⟨rfl, rfl⟩

theorem bcell {W w1 : World} (hb : Below W.heap.size W w1) : (∀ b o, b < W.heap.size → w1.cell? ⟨b, o, none⟩ = W.cell? ⟨b, o, none⟩) ∧ (∀ b o, b < W.heap.size → w1.frozen? ⟨b, o, none⟩ = W.frozen? ⟨b, o, none⟩) :=
  ⟨fun b o h => hb.cell (p := ⟨b, o, none⟩) h, fun b o h => hb.frozen (p := ⟨b, o, none⟩) h⟩

theorem pOk_size (o a b c s : Int) (hs : inO s 0 32 = false) (w : World) : Calls Try.prog 53 #[.agg #[.int .i64 o, .int .i64 a, .int .i64 b, .int .i64 c], .int .i64 s] w (Said (.bool false) w) := by
  have hs' := inO_not.1 hs
  clear hs
  by_cases h : s < 0
  · go_enter Try.func53, Try.ntmps53
    go_wp2_with fail
    go_ret
    exact ⟨rfl, below1 _ _⟩
  · have h1 : decide (s < 0) = false := by simp; omega
    have h2 : decide (32 < s) = true := by simp; omega
    clear hs'
    go_enter Try.func53, Try.ntmps53
    go_wp2_with fail
    go_ret
    exact ⟨rfl, below1 _ _⟩

theorem pOk_no (o a b c s : Int) (hs : inO s 0 32 = true) (ho : inO o 0 16 = false) (w : World) : Calls Try.prog 53 #[.agg #[.int .i64 o, .int .i64 a, .int .i64 b, .int .i64 c], .int .i64 s] w (Said (.bool false) w) := by
  have hs' := inO_iff.1 hs
  have h1 : decide (s < 0) = false := by simp; omega
  have h2 : decide (32 < s) = false := by simp; omega
  have h0 := fun W => pIsOp_any o W
  rw [ho] at h0
  replace h0 := Lib.hid h0
  clear hs' hs ho
  go_enter Try.func53, Try.ntmps53
  go_wp2_with fail
  refine (h0.out _).mono ?_
  rintro e w' ⟨rfl, rfl⟩
  go_wp2_with fail
  go_ret
  exact ⟨rfl, below1 _ _⟩

set_option maxRecDepth 100000 in
set_option maxHeartbeats 1000000 in
theorem pOk_yes (o a b c s : Int) (F G H : FuncId) (p q r : Int → Int → Bool) (hF : Chk F p) (hG : Chk G q) (hH : Chk H r)
    (hC : ∀ w, Calls Try.prog 84 #[.int .i64 o] w (Said (.agg #[.func (.func F) #[] #[], .func (.func G) #[] #[], .func (.func H) #[] #[]]) w))
    (hs : inO s 0 32 = true) (ho : inO o 0 16 = true) (w : World) : Calls Try.prog 53 #[.agg #[.int .i64 o, .int .i64 a, .int .i64 b, .int .i64 c], .int .i64 s] w (Said (.bool (p a s && q b s && r c s)) w) := by
  have hs' := inO_iff.1 hs
  have h1 : decide (s < 0) = false := by simp; omega
  have h2 : decide (32 < s) = false := by simp; omega
  have h0 := fun W => pIsOp_any o W
  rw [ho] at h0
  replace h0 := Lib.hid h0
  replace hC := Lib.hid hC
  have eF := hF.1
  have eG := hG.1
  have eH := hH.1
  have cF := fun W => hF.2 a s W
  have cG := fun W => hG.2 b s W
  have cH := fun W => hH.2 c s W
  generalize p a s = x at *
  generalize q b s = y at *
  generalize r c s = z at *
  replace cF := Lib.hid cF
  replace cG := Lib.hid cG
  replace cH := Lib.hid cH
  clear hs' hs ho hF hG hH
  cases x with
  | false =>
    go_enter Try.func53, Try.ntmps53
    go_wp2_with fail
    refine (h0.out _).mono ?_
    rintro e w' ⟨rfl, rfl⟩
    go_wp2_with fail
    refine (hC.out _).mono ?_
    rintro e w1 ⟨rfl, b1⟩
    obtain ⟨bc, bf⟩ := bcell b1
    have s1 : w.heap.size < w1.heap.size := by have := b1.size; simp at this; omega
    have B1 := Lib.hid b1
    clear b1
    go_wp2_with fail
    refine (cF.out _).mono ?_
    rintro e w' ⟨rfl, rfl⟩
    go_wp2_with fail
    go_ret
    exact ⟨ret_bool (by simp), ((below1 _ _).trans (B1.out.mono (by simp))).alloc (by omega) _⟩
  | true =>
    cases y with
    | false =>
      go_enter Try.func53, Try.ntmps53
      go_wp2_with fail
      refine (h0.out _).mono ?_
      rintro e w' ⟨rfl, rfl⟩
      go_wp2_with fail
      refine (hC.out _).mono ?_
      rintro e w1 ⟨rfl, b1⟩
      obtain ⟨bc, bf⟩ := bcell b1
      have s1 : w.heap.size < w1.heap.size := by have := b1.size; simp at this; omega
      have B1 := Lib.hid b1
      clear b1
      go_wp2_with fail
      refine (cF.out _).mono ?_
      rintro e w' ⟨rfl, rfl⟩
      go_wp2_with fail
      refine (cG.out _).mono ?_
      rintro e w' ⟨rfl, rfl⟩
      go_wp2_with fail
      go_ret
      exact ⟨ret_bool (by simp), ((below1 _ _).trans (B1.out.mono (by simp))).alloc (by omega) _⟩
    | true =>
      go_enter Try.func53, Try.ntmps53
      go_wp2_with fail
      refine (h0.out _).mono ?_
      rintro e w' ⟨rfl, rfl⟩
      go_wp2_with fail
      refine (hC.out _).mono ?_
      rintro e w1 ⟨rfl, b1⟩
      obtain ⟨bc, bf⟩ := bcell b1
      have s1 : w.heap.size < w1.heap.size := by have := b1.size; simp at this; omega
      have B1 := Lib.hid b1
      clear b1
      go_wp2_with fail
      refine (cF.out _).mono ?_
      rintro e w' ⟨rfl, rfl⟩
      go_wp2_with fail
      refine (cG.out _).mono ?_
      rintro e w' ⟨rfl, rfl⟩
      go_wp2_with fail
      refine (cH.out _).mono ?_
      rintro e w' ⟨rfl, rfl⟩
      go_wp2_with fail
      go_ret
      exact ⟨ret_bool (by simp), ((below1 _ _).trans (B1.out.mono (by simp))).alloc (by omega) _⟩

theorem pInsOk_any (o a b c s : Int) (w : World) : Calls Try.prog 53 #[.agg #[.int .i64 o, .int .i64 a, .int .i64 b, .int .i64 c], .int .i64 s] w (Said (.bool (insOk o a b c s)) w) := by
  unfold insOk
  cases hs : inO s 0 32 with
  | false => rw [if_neg (by simp)]; exact pOk_size o a b c s hs w
  | true =>
    cases ho : inO o 0 16 with
    | false => rw [if_neg (by simp)]; exact pOk_no o a b c s hs ho w
    | true =>
      rw [if_pos ⟨rfl, rfl⟩]
      have h := inO_iff.1 ho
      obtain ⟨k, rfl⟩ := Int.eq_ofNat_of_zero_le h.1
      have hk : k < 17 := by omega
      have hC : ∀ F G H, chkTab[k * 3]? = some (.func (.func F) #[] #[]) → chkTab[k * 3 + 1]? = some (.func (.func G) #[] #[]) → chkTab[k * 3 + 2]? = some (.func (.func H) #[] #[]) → ∀ w, Calls Try.prog 84 #[.int .i64 (k : Int)] w (Said (.agg #[.func (.func F) #[] #[], .func (.func G) #[] #[], .func (.func H) #[] #[]]) w) :=
        fun F G H h0 h1 h2 w => checks_at k hk F G H h0 h1 h2 w
      have go := fun F G H p q r hF hG hH h0 h1 h2 => pOk_yes (k : Int) a b c s F G H p q r hF hG hH (hC F G H h0 h1 h2) hs ho w
      clear hC h
      match k, hk with
      | 0, _ => exact go _ _ _ _ _ _ chk_unused chk_unused chk_unused rfl rfl rfl
      | 1, _ => exact go _ _ _ _ _ _ chk_reg chk_const chk_unused rfl rfl rfl
      | 2, _ => exact go _ _ _ _ _ _ chk_reg chk_reg chk_unused rfl rfl rfl
      | 3, _ => exact go _ _ _ _ _ _ chk_reg chk_reg chk_reg rfl rfl rfl
      | 4, _ => exact go _ _ _ _ _ _ chk_reg chk_reg chk_reg rfl rfl rfl
      | 5, _ => exact go _ _ _ _ _ _ chk_reg chk_reg chk_reg rfl rfl rfl
      | 6, _ => exact go _ _ _ _ _ _ chk_reg chk_reg chk_reg rfl rfl rfl
      | 7, _ => exact go _ _ _ _ _ _ chk_reg chk_reg chk_reg rfl rfl rfl
      | 8, _ => exact go _ _ _ _ _ _ chk_reg chk_unused chk_unused rfl rfl rfl
      | 9, _ => exact go _ _ _ _ _ _ chk_reg chk_reg chk_reg rfl rfl rfl
      | 10, _ => exact go _ _ _ _ _ _ chk_reg chk_target chk_unused rfl rfl rfl
      | 11, _ => exact go _ _ _ _ _ _ chk_unused chk_target chk_unused rfl rfl rfl
      | 12, _ => exact go _ _ _ _ _ _ chk_unused chk_unused chk_unused rfl rfl rfl
      | 13, _ => exact go _ _ _ _ _ _ chk_reg chk_reg chk_unused rfl rfl rfl
      | 14, _ => exact go _ _ _ _ _ _ chk_reg chk_reg chk_unused rfl rfl rfl
      | 15, _ => exact go _ _ _ _ _ _ chk_reg chk_reg chk_unused rfl rfl rfl
      | 16, _ => exact go _ _ _ _ _ _ chk_unused chk_unused chk_unused rfl rfl rfl
      | n + 17, hn => exact absurd hn (by omega)

end Go.Proofs.Ytmiopbpahkgmbaa
