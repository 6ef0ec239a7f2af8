/- Instructions: what the program and its model say of one, field by field. -/
import Derived.Test.YtbnebghpakllpaaWords
import Derived.WalkSpells
namespace Go.Proofs.Ytbnebghpakllpaa
open Go.RowKit Go

/-- A call over an instruction: it answers v, and nothing that lay there has turned. -/
def Said (v : Value) (w : World) (e : Ending) (w' : World) : Prop := e = .returned v ∧ Below w.heap.size w w'

theorem below1 (w : World) (o1 : Obj) : Below w.heap.size w (w.alloc o1) := (Below.refl _ _).alloc (Nat.le_refl _) o1
theorem below2 (w : World) (o1 o2 : Obj) : Below w.heap.size w ((w.alloc o1).alloc o2) := (below1 w o1).alloc (by simp) o2
theorem below3 (w : World) (o1 o2 o3 : Obj) : Below w.heap.size w (((w.alloc o1).alloc o2).alloc o3) := (below2 w o1 o2).alloc (by simp; omega) o3

theorem toIns_any (o a b c : Int) (w : World) : Calls Try.prog 61 #[.agg #[.int .i64 o, .int .i64 a, .int .i64 b, .int .i64 c]] w (Said (.agg #[.int .i64 o, .int .i64 a, .int .i64 b, .int .i64 c]) w) := by
  go_enter Try.func61, Try.ntmps61
  go_wp2
  exact bodyPost_ret (v := .agg #[.int .i64 o, .int .i64 a, .int .i64 b, .int .i64 c]) (by simp [results, Try.results61, go_sem]) rfl ⟨rfl, below3 _ _ _ _⟩

/-- Is the operation between two others? -/
def inO (o p q : Int) : Bool := decide (p ≤ o ∧ o ≤ q)
theorem inO_no {o p q : Int} (h : o < p ∨ q < o) : inO o p q = false := by unfold inO; simp only [decide_eq_false_iff_not]; omega
theorem inO_yes {o p q : Int} (h : p ≤ o) (k : o ≤ q) : inO o p q = true := by unfold inO; simp only [decide_eq_true_eq]; omega
theorem inO_iff {o p q : Int} : inO o p q = true ↔ p ≤ o ∧ o ≤ q := by unfold inO; simp
theorem inO_not {o p q : Int} : inO o p q = false ↔ o < p ∨ q < o := by unfold inO; simp only [decide_eq_false_iff_not]; omega

/-- The register that an instruction changes. -/
def wrt (o a : Int) : Int := if (1 ≤ o ∧ o ≤ 9) ∨ o = 13 then a else -1

end Go.Proofs.Ytbnebghpakllpaa
