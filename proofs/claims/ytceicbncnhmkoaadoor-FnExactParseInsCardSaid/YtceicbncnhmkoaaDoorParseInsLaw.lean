/- FnExactParseIns: whatever line ParseIns is given, the program answers as the model. -/
import Derived.Test.YtceicbncnhmkoaaDoorParseInsS
namespace Go.Proofs.YtceicbncnhmkoaaDoor
open Go.RowKit Go

theorem parV_parts (p : Option I4) : ∃ o a b c ok, parV p = .tuple #[.agg #[.int .i64 o, .int .i64 a, .int .i64 b, .int .i64 c], .bool ok] := by
  cases p with
  | none => exact ⟨_, _, _, _, _, rfl⟩
  | some i => exact ⟨_, _, _, _, _, rfl⟩

set_option maxHeartbeats 1000000 in
theorem fnExactParseIns_walk (s : ByteArray) (w : World) (hn : NumVars w) :
    Calls Tryd.prog 5 #[.string s] w fun e w' => e = .returned (.bool true) ∧ Below w.heap.size w w' := by
  by_cases hbig : 1048576 < s.size
  · go_enter Tryd.func5, Tryd.ntmps5
    go_wp2_with fail
    go_ret
    exact ⟨rfl, Below.refl _ _⟩
  have h2 := fun W => sParse_any s W
  have h3 := fun W hn => pParse_any s W hn
  have HN := Lib.hid hn
  clear hn
  obtain ⟨o, a, b, c, ok, hp⟩ := parV_parts (parseL s)
  rw [hp] at h2 h3
  replace h2 := Lib.hid h2
  replace h3 := Lib.hid h3
  have h4 := Lib.hid (fun W => eqIns_same o a b c W)
  clear hp
  go_enter Tryd.func5, Tryd.ntmps5
  go_wp2_with fail
  refine (h2.out _).mono ?_
  rintro e w2 ⟨rfl, b2⟩
  have B2 := Lib.hid b2
  clear b2
  go_wp2_with fail
  refine (h3.out _ (HN.out.below (B2.out.alloc B2.out.size _) (Nat.le_refl _))).mono ?_
  rintro e w3 ⟨rfl, b3⟩
  have K3 := (Blk.new w2 (insC o a b c) _ rfl).below b3
  have k3 := K3.cell
  have B3 := Lib.hid ((B2.out.alloc B2.out.size _).trans (b3.mono (by have := B2.out.size; simp; omega)))
  have k4 := (K3.alloc (.cells (insC o a b c) 32)).cell
  have hlt := K3.lt
  clear b3 K3
  go_wp2_with fail
  refine (h4.out _).mono ?_
  rintro e w4 ⟨rfl, b4⟩
  have B4 := Lib.hid ((B3.out.alloc B3.out.size _).trans (b4.mono (by have := B3.out.size; simp; omega)))
  clear b4
  cases ok
  all_goals
    go_wp2_with fail
    go_ret
    exact ⟨rfl, B4.out⟩
end Go.Proofs.YtceicbncnhmkoaaDoor
