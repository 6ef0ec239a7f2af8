/- The exact laws of the instructions that answer a number or a bool: whatever instruction is given, the program answers as the model. -/
import Derived.Test.YtedcdfcamomcaaaInsOkP
import Derived.Test.YtedcdfcamomcaaaInsOkS
namespace Go.Proofs.Ytedcdfcamomcaaa
open Go.RowKit Go

set_option maxHeartbeats 1000000 in
theorem fnExactIsLocal_walk (o a b c : Int) (w : World) : Calls Try.prog 6 #[.agg #[.int .i64 o, .int .i64 a, .int .i64 b, .int .i64 c]] w fun e w' => e = .returned (.bool true) ∧ Below w.heap.size w w' := by
  have h1 := fun W => sIsLocal_any o a b c W
  have h2 := fun W => pIsLocal_any o a b c W
  generalize inO o 0 12 = x at *
  replace h1 := Lib.hid h1
  replace h2 := Lib.hid h2
  go_enter Try.func6, Try.ntmps6
  go_wp2_with fail
  refine (toIns_any o a b c _).mono ?_
  rintro e w1 ⟨rfl, b1⟩
  obtain ⟨bc1, _⟩ := bcell b1
  have s1 : w.heap.size < w1.heap.size := by have := b1.size; simp at this; omega
  have B1 := Lib.hid ((below1 _ _).trans (b1.mono (by simp)))
  clear b1
  go_wp2_with fail
  refine (h1.out _).mono ?_
  rintro e w2 ⟨rfl, b2⟩
  obtain ⟨bc2, _⟩ := bcell b2
  have s2 : w.heap.size < w2.heap.size := by have := b2.size; omega
  have B2 := Lib.hid (B1.out.trans (b2.mono (by omega)))
  clear b2
  go_wp2_with fail
  refine (toIns_any o a b c _).mono ?_
  rintro e w3 ⟨rfl, b3⟩
  obtain ⟨bc3, _⟩ := bcell b3
  have s3 : w.heap.size < w3.heap.size := by have := b3.size; omega
  have B3 := Lib.hid (B2.out.trans (b3.mono (by omega)))
  clear b3
  go_wp2_with fail
  refine (h2.out _).mono ?_
  rintro e w4 ⟨rfl, b4⟩
  have s4 : w.heap.size < w4.heap.size := by have := b4.size; omega
  have B4 := Lib.hid (B3.out.trans (b4.mono (by omega)))
  clear b4
  go_wp2_with fail
  go_ret
  exact ⟨rfl, B4.out⟩

set_option maxHeartbeats 1000000 in
theorem fnExactWritesReg_walk (o a b c : Int) (w : World) : Calls Try.prog 4 #[.agg #[.int .i64 o, .int .i64 a, .int .i64 b, .int .i64 c]] w fun e w' => e = .returned (.bool true) ∧ Below w.heap.size w w' := by
  have h1 := fun W => sWrites_any o a b c W
  have h2 := fun W => pWrites_any o a b c W
  generalize wrt o a = x at *
  replace h1 := Lib.hid h1
  replace h2 := Lib.hid h2
  go_enter Try.func4, Try.ntmps4
  go_wp2_with fail
  refine (toIns_any o a b c _).mono ?_
  rintro e w1 ⟨rfl, b1⟩
  obtain ⟨bc1, _⟩ := bcell b1
  have s1 : w.heap.size < w1.heap.size := by have := b1.size; simp at this; omega
  have B1 := Lib.hid ((below1 _ _).trans (b1.mono (by simp)))
  clear b1
  go_wp2_with fail
  refine (h1.out _).mono ?_
  rintro e w2 ⟨rfl, b2⟩
  obtain ⟨bc2, _⟩ := bcell b2
  have s2 : w.heap.size < w2.heap.size := by have := b2.size; omega
  have B2 := Lib.hid (B1.out.trans (b2.mono (by omega)))
  clear b2
  go_wp2_with fail
  refine (toIns_any o a b c _).mono ?_
  rintro e w3 ⟨rfl, b3⟩
  obtain ⟨bc3, _⟩ := bcell b3
  have s3 : w.heap.size < w3.heap.size := by have := b3.size; omega
  have B3 := Lib.hid (B2.out.trans (b3.mono (by omega)))
  clear b3
  go_wp2_with fail
  refine (h2.out _).mono ?_
  rintro e w4 ⟨rfl, b4⟩
  have s4 : w.heap.size < w4.heap.size := by have := b4.size; omega
  have B4 := Lib.hid (B3.out.trans (b4.mono (by omega)))
  clear b4
  go_wp2_with fail
  go_ret
  exact ⟨rfl, B4.out⟩

set_option maxHeartbeats 1000000 in
theorem fnExactInsOk_walk (o a b c s : Int) (w : World) : Calls Try.prog 3 #[.agg #[.int .i64 o, .int .i64 a, .int .i64 b, .int .i64 c], .int .i64 s] w fun e w' => e = .returned (.bool true) ∧ Below w.heap.size w w' := by
  have h1 := fun W => sInsOk_any o a b c s W
  have h2 := fun W => pInsOk_any o a b c s W
  generalize insOk o a b c s = x at *
  replace h1 := Lib.hid h1
  replace h2 := Lib.hid h2
  go_enter Try.func3, Try.ntmps3
  go_wp2_with fail
  refine (toIns_any o a b c _).mono ?_
  rintro e w1 ⟨rfl, b1⟩
  obtain ⟨bc1, _⟩ := bcell b1
  have s1 : w.heap.size < w1.heap.size := by have := b1.size; simp at this; omega
  have B1 := Lib.hid ((below1 _ _).trans (b1.mono (by simp)))
  clear b1
  go_wp2_with fail
  refine (h1.out _).mono ?_
  rintro e w2 ⟨rfl, b2⟩
  obtain ⟨bc2, _⟩ := bcell b2
  have s2 : w.heap.size < w2.heap.size := by have := b2.size; omega
  have B2 := Lib.hid (B1.out.trans (b2.mono (by omega)))
  clear b2
  go_wp2_with fail
  refine (toIns_any o a b c _).mono ?_
  rintro e w3 ⟨rfl, b3⟩
  obtain ⟨bc3, _⟩ := bcell b3
  have s3 : w.heap.size < w3.heap.size := by have := b3.size; omega
  have B3 := Lib.hid (B2.out.trans (b3.mono (by omega)))
  clear b3
  go_wp2_with fail
  refine (h2.out _).mono ?_
  rintro e w4 ⟨rfl, b4⟩
  have s4 : w.heap.size < w4.heap.size := by have := b4.size; omega
  have B4 := Lib.hid (B3.out.trans (b4.mono (by omega)))
  clear b4
  go_wp2_with fail
  go_ret
  exact ⟨rfl, B4.out⟩

end Go.Proofs.Ytedcdfcamomcaaa
