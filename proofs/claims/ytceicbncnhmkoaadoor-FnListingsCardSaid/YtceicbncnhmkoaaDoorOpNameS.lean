/- The model's OpName, and the exact law. -/
import Derived.Test.YtceicbncnhmkoaaDoorOpName
namespace Go.Proofs.YtceicbncnhmkoaaDoor
open Go.RowKit Go

set_option maxHeartbeats 1000000 in
theorem sOpName_any (o : Int) (w : World) : Calls Tryd.prog 44 #[.int .i64 o] w (fun e w' => e = .returned (.string (nameOf o)) ∧ Below w.heap.size w w') := by
  unfold nameOf
  have h1 := fun W => sIn_any o 0 16 W
  rw [show decide (0 ≤ o ∧ o ≤ 16) = inO o 0 16 from rfl] at h1
  cases ho : inO o 0 16 with
  | false =>
    rw [if_neg (by simp)]
    rw [ho] at h1
    replace h1 := Lib.hid h1
    clear ho
    go_enter Tryd.func44, Tryd.ntmps44
    go_wp2_with fail
    refine (h1.out _).mono ?_
    rintro e w' ⟨rfl, rfl⟩
    go_wp2_with fail
    go_ret
    exact ⟨rfl, Below.refl _ _⟩
  | true =>
    rw [if_pos rfl]
    rw [ho] at h1
    replace h1 := Lib.hid h1
    have hk := inO_iff.1 ho
    clear ho
    rcases (by omega : o = 0 ∨ o = 1 ∨ o = 2 ∨ o = 3 ∨ o = 4 ∨ o = 5 ∨ o = 6 ∨ o = 7 ∨ o = 8 ∨ o = 9 ∨ o = 10 ∨ o = 11 ∨ o = 12 ∨ o = 13 ∨ o = 14 ∨ o = 15 ∨ o = 16) with rfl | rfl | rfl | rfl | rfl | rfl | rfl | rfl | rfl | rfl | rfl | rfl | rfl | rfl | rfl | rfl | rfl
    all_goals
      clear hk
      go_enter Tryd.func44, Tryd.ntmps44
      go_wp2_with fail
      refine (h1.out _).mono ?_
      rintro e w' ⟨rfl, rfl⟩
      go_wp2_with fail
      go_ret
      exact ⟨rfl, (Below.refl _ _).alloc (Nat.le_refl _) _⟩

end Go.Proofs.YtceicbncnhmkoaaDoor
