/- FnExactFormatIns: whatever instruction FormatIns is given, the program answers as the model. -/
import Derived.Test.YtceicbncnhmkoaaDoorFmtInsP
import Derived.Test.YtceicbncnhmkoaaDoorFmtInsS
namespace Go.Proofs.YtceicbncnhmkoaaDoor
open Go.RowKit Go

theorem NamesIs.below {w w' : World} {B : Nat} (h : NamesIs w) (hb : Below B w w') (hB : w.heap.size ≤ B) : NamesIs w' := h.kept (hb.mono hB)

set_option maxHeartbeats 1000000 in
theorem fnExactFormatIns_walk (o a b c : Int) (w : World) (hN : NamesIs w) (hp : Pow10 w) :
    Calls Tryd.prog 4 #[.agg #[.int .i64 o, .int .i64 a, .int .i64 b, .int .i64 c]] w fun e w' => e = .returned (.bool true) ∧ Below w.heap.size w w' := by
  have h1 := Lib.hid (fun W => toIns_any o a b c W)
  have h2 := fun W => sFmt_any o a b c W
  have h3 := fun W hN hp => pFmt_any o a b c W hN hp
  generalize insText o a b c = s at *
  replace h2 := Lib.hid h2
  replace h3 := Lib.hid h3
  have HN := Lib.hid hN
  have HP := Lib.hid hp
  clear hN hp
  go_enter Tryd.func4, Tryd.ntmps4
  go_wp2_with fail
  refine (h1.out _).mono ?_
  rintro e w1 ⟨rfl, b1⟩
  obtain ⟨bc1, _⟩ := bcell b1
  have s1 : w.heap.size < w1.heap.size := by have := b1.size; simp at this; omega
  have B1 := Lib.hid ((below1 w _).trans (b1.mono (by simp)))
  clear b1
  go_wp2_with fail
  refine (h2.out _).mono ?_
  rintro e w2 ⟨rfl, b2⟩
  obtain ⟨bc2, _⟩ := bcell b2
  have B2 := Lib.hid (B1.out.trans (b2.mono B1.out.size))
  clear b2
  go_wp2_with fail
  refine (h1.out _).mono ?_
  rintro e w3 ⟨rfl, b3⟩
  have B3 := Lib.hid (B2.out.trans (b3.mono B2.out.size))
  clear b3
  go_wp2_with fail
  refine (h3.out _ (HN.out.below B3.out (Nat.le_refl _)) (HP.out.below B3.out (Nat.le_refl _))).mono ?_
  rintro e w4 ⟨rfl, b4⟩
  have B4 := Lib.hid (B3.out.trans (b4.mono B3.out.size))
  clear b4
  go_wp2_with fail
  go_ret
  exact ⟨rfl, B4.out⟩
end Go.Proofs.YtceicbncnhmkoaaDoor
