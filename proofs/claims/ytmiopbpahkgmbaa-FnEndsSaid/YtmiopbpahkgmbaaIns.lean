/- Instructions: what the program and its model say of one, field by field. -/
import Derived.Test.YtmiopbpahkgmbaaWords
import Derived.WalkSpells
namespace Go.Proofs.Ytmiopbpahkgmbaa
open Go.RowKit Go

/-- A call over an instruction: it answers v, and nothing that lay there has turned. -/
def Said (v : Value) (w : World) (e : Ending) (w' : World) : Prop := e = .returned v ∧ Below w.heap.size w w'

theorem below1 (w : World) (o1 : Obj) : Below w.heap.size w (w.alloc o1) := (Below.refl _ _).alloc (Nat.le_refl _) o1
theorem below2 (w : World) (o1 o2 : Obj) : Below w.heap.size w ((w.alloc o1).alloc o2) := (below1 w o1).alloc (by simp) o2
theorem below3 (w : World) (o1 o2 o3 : Obj) : Below w.heap.size w (((w.alloc o1).alloc o2).alloc o3) := (below2 w o1 o2).alloc (by simp; omega) o3

theorem toIns_any (o a b c : Int) (w : World) : Calls Try.prog 74 #[.agg #[.int .i64 o, .int .i64 a, .int .i64 b, .int .i64 c]] w (Said (.agg #[.int .i64 o, .int .i64 a, .int .i64 b, .int .i64 c]) w) := by
  go_enter Try.func74, Try.ntmps74
  go_wp2
  exact bodyPost_ret (v := .agg #[.int .i64 o, .int .i64 a, .int .i64 b, .int .i64 c]) (by simp [results, Try.results74, go_sem]) rfl ⟨rfl, below3 _ _ _ _⟩

/-- Is the operation between two others? -/
def inO (o p q : Int) : Bool := decide (p ≤ o ∧ o ≤ q)
theorem inO_no {o p q : Int} (h : o < p ∨ q < o) : inO o p q = false := by unfold inO; simp only [decide_eq_false_iff_not]; omega
theorem inO_yes {o p q : Int} (h : p ≤ o) (k : o ≤ q) : inO o p q = true := by unfold inO; simp only [decide_eq_true_eq]; omega
theorem inO_iff {o p q : Int} : inO o p q = true ↔ p ≤ o ∧ o ≤ q := by unfold inO; simp
theorem inO_not {o p q : Int} : inO o p q = false ↔ o < p ∨ q < o := by unfold inO; simp only [decide_eq_false_iff_not]; omega

theorem pIsLocal_any (o a b c : Int) (w : World) : Calls Try.prog 59 #[.agg #[.int .i64 o, .int .i64 a, .int .i64 b, .int .i64 c]] w (Said (.bool (inO o 0 12)) w) := by
  by_cases h0 : 0 ≤ o
  · have e : inO o 0 12 = decide (o ≤ 12) := by unfold inO; simp [h0]
    rw [e]
    go_enter Try.func59, Try.ntmps59
    go_wp2
    go_ret
    exact ⟨rfl, below1 _ _⟩
  · rw [inO_no (by omega)]
    have hd : decide (0 ≤ o) = false := by simpa using h0
    go_enter Try.func59, Try.ntmps59
    go_wp2
    go_ret
    exact ⟨rfl, below1 _ _⟩

theorem sIsLocal_any (o a b c : Int) (w : World) : Calls Try.prog 71 #[.agg #[.int .i64 o, .int .i64 a, .int .i64 b, .int .i64 c]] w (Said (.bool (inO o 0 12)) w) := by
  have h1 := fun W => sIn_any o 0 12 W
  have h2 : decide (0 ≤ o ∧ o ≤ 12) = inO o 0 12 := rfl
  rw [h2] at h1
  replace h1 := Lib.hid h1
  clear h2
  generalize inO o 0 12 = x at *
  go_enter Try.func71, Try.ntmps71
  go_wp2_with fail
  refine (h1.out _).mono ?_
  rintro e w' ⟨rfl, rfl⟩
  go_wp2_with fail
  go_ret
  exact ⟨rfl, below1 _ _⟩

/-- The register that an instruction changes. -/
def wrt (o a : Int) : Int := if (1 ≤ o ∧ o ≤ 9) ∨ o = 13 then a else -1

theorem pWrites_any (o a b c : Int) (w : World) : Calls Try.prog 16 #[.agg #[.int .i64 o, .int .i64 a, .int .i64 b, .int .i64 c]] w (Said (.int .i64 (wrt o a)) w) := by
  have e : wrt o a = if (1 ≤ o ∧ o ≤ 9) ∨ o = 13 then a else -1 := rfl
  by_cases h : o < 1
  · rw [e, if_neg (by omega)]
    have hd : decide (1 ≤ o) = false := by simp; omega
    have he : (o == 13) = false := by simp; omega
    clear e
    go_enter Try.func16, Try.ntmps16
    go_wp2
    go_ret
    exact ⟨rfl, below1 _ _⟩
  · have h1 : 1 ≤ o := by omega
    clear h
    by_cases h : o ≤ 9
    · rw [e, if_pos (by omega)]
      clear e
      go_enter Try.func16, Try.ntmps16
      go_wp2
      go_ret
      exact ⟨rfl, below1 _ _⟩
    · by_cases h2 : o = 13
      · subst h2
        clear e h h1
        show Calls _ _ _ _ (Said (.int .i64 a) w)
        go_enter Try.func16, Try.ntmps16
        go_wp2
        go_ret
        exact ⟨rfl, below1 _ _⟩
      · rw [e, if_neg (by omega)]
        clear e
        have hd : decide (o ≤ 9) = false := by simp; omega
        have he : (o == 13) = false := by simp; omega
        go_enter Try.func16, Try.ntmps16
        go_wp2
        go_ret
        exact ⟨rfl, below1 _ _⟩

end Go.Proofs.Ytmiopbpahkgmbaa
