/- The contracts of the words' functions, the program's and the model's. -/
import Derived.Test.YtbnebghpakllpaaBase
import Derived.Test.YtbnebghpakllpaaChecked
import Derived.IntWalk
namespace Go.Proofs.Ytbnebghpakllpaa
open Go.RowKit Go

/-- Is n a word? -/
def isW (n : Int) : Bool := decide (0 ≤ n ∧ n < 65536)
theorem isW_mk {n : Int} (h0 : 0 ≤ n) (h1 : n < 65536) : isW n = true := by unfold isW; simp; omega
theorem isW_iff {n : Int} : isW n = true ↔ 0 ≤ n ∧ n < 65536 := by unfold isW; simp
theorem isW_not {n : Int} : isW n = false ↔ ¬ (0 ≤ n ∧ n < 65536) := by unfold isW; simp only [decide_eq_false_iff_not]
theorem ret_bool {a b : Bool} (h : a = b) : Ending.returned (.bool a) = .returned (.bool b) := by rw [h]
/-- What an operation makes of two numbers, if both are words. -/
def ofWords (f : Int → Int → Int) (a b : Int) : Int := if isW a = true ∧ isW b = true then f a b else 0
def addW (a b : Int) : Int := ofWords (fun a b => (a + b) % 65536) a b
def subW (a b : Int) : Int := ofWords (fun a b => (a - b) % 65536) a b
def mulW (a b : Int) : Int := ofWords (fun a b => (a * b) % 65536) a b
def lessW (a b : Int) : Int := ofWords (fun a b => if a < b then 1 else 0) a b
theorem isW_mod (n : Int) : isW (n % 65536) = true := isW_mk (Int.emod_nonneg _ (by omega)) (Int.emod_lt_of_pos _ (by omega))

theorem u16_mod (n : Int) : IntKind.u16.wrap n = n % 65536 := by simp [IntKind.wrap, IntKind.bits, IntKind.signed]
theorem wrap_mod (n : Int) : wrap64 (n % 65536) = n % 65536 := IntWalk.wrap64_in _ (by omega)

theorem pIsWord_any (n : Int) (w : World) : Calls Try.prog 115 #[.int .i64 n] w (fun e w' => e = .returned (.bool (isW n)) ∧ w = w') := by
  by_cases h0 : 0 ≤ n
  · have e : isW n = decide (n < 65536) := by unfold isW; simp [h0]
    rw [e]
    go_enter Try.func115, Try.ntmps115
    go_wp2
    go_ret
    exact ⟨rfl, rfl⟩
  · have e : isW n = false := by unfold isW; simp [h0]
    rw [e]
    have hd : decide (0 ≤ n) = false := by simpa using h0
    go_enter Try.func115, Try.ntmps115
    go_wp2
    go_ret
    exact ⟨rfl, rfl⟩

theorem sIn_any (n a b : Int) (w : World) : Calls Try.prog 81 #[.int .i64 n, .int .i64 a, .int .i64 b] w (fun e w' => e = .returned (.bool (decide (a ≤ n ∧ n ≤ b))) ∧ w = w') := by
  by_cases h0 : a ≤ n
  · have e : decide (a ≤ n ∧ n ≤ b) = decide (n ≤ b) := by simp [h0]
    rw [e]
    go_enter Try.func81, Try.ntmps81
    go_wp2
    go_ret
    exact ⟨rfl, rfl⟩
  · have e : decide (a ≤ n ∧ n ≤ b) = false := by simp [h0]
    rw [e]
    have hd : decide (a ≤ n) = false := by simpa using h0
    go_enter Try.func81, Try.ntmps81
    go_wp2
    go_ret
    exact ⟨rfl, rfl⟩

theorem sIsWord_any (n : Int) (w : World) : Calls Try.prog 92 #[.int .i64 n] w (fun e w' => e = .returned (.bool (isW n)) ∧ w = w') := by
  have e : decide (0 ≤ n ∧ n ≤ 65535) = isW n := by unfold isW; congr 1; apply propext; omega
  have HE := Lib.hid e
  clear e
  go_enter Try.func92, Try.ntmps92
  go_wp2_with fail
  refine (sIn_any n 0 65535 _).mono ?_
  rw [HE.out]
  rintro e w' ⟨rfl, rfl⟩
  go_wp2_with fail
  go_ret
  exact ⟨rfl, rfl⟩

theorem isW_both {a b : Int} (h : isW a = true ∧ isW b = true) : (0 ≤ a ∧ a < 65536) ∧ 0 ≤ b ∧ b < 65536 := ⟨isW_iff.1 h.1, isW_iff.1 h.2⟩

end Go.Proofs.Ytbnebghpakllpaa
