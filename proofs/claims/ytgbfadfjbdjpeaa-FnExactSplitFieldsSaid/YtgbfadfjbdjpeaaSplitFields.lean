/- FnExactSplitFields: whatever line SplitFields is given, the program answers as the model, and its answers share no memory. No condition. -/
import Derived.Test.YtgbfadfjbdjpeaaSplitS
import Derived.Test.YtgbfadfjbdjpeaaSplitP
import Derived.Test.YtgbfadfjbdjpeaaMark
namespace Go.Proofs.Ytgbfadfjbdjpeaa
open Go.RowKit Go

theorem fields_le (s : ByteArray) : ((fieldsOf s).getD []).length ≤ 24 := by
  unfold fieldsOf
  split
  · rename_i h; exact h.2.2
  · simp

set_option maxHeartbeats 400000 in
theorem fnExactSplitFields_walk (s : ByteArray) (_hs : s.size ≤ maxLen) (w : World) :
    Calls Try.prog 6 #[.string s] w fun e w' => e = .returned (.bool true) ∧ Below w.heap.size w w' := by
  by_cases hbig : 1048576 < s.size
  · go_enter Try.func6, Try.ntmps6
    go_wp2_with fail
    go_ret
    exact ⟨rfl, Below.refl _ _⟩
  · go_enter Try.func6, Try.ntmps6
    go_wp2_with fail
    refine (splitS_any s _).mono ?_
    rintro e w1 ⟨v0, rfl, t0, hb1⟩
    have hP := fun W => splitP_any s W
    have HP := Lib.hid hP
    have hl := fields_le s
    unfold SplitSaid at HP
    generalize (fieldsOf s).isSome = ok at *
    generalize (fieldsOf s).getD [] = xs at *
    have hlt0 : ∀ g, v0.ownBlock = some g → g < w1.heap.size := fun g hg => (World.ownsRow.lt t0 g hg).2
    have L0 := Lib.hid hlt0
    have T0 := Lib.hid t0
    clear t0 hP hlt0
    go_wp2_with fail
    refine (HP.out _).mono ?_
    rintro e w2 ⟨v1, rfl, t1, hb2⟩
    have t0 := T0.out.below hb2
    have T1 := Lib.hid t1
    have T0' := Lib.hid t0
    clear t1 t0 T0
    go_wp2_with fail
    refine (eqS_same v1 v0 _ _ xs _ (by omega) T1.out T0'.out).mono ?_
    rintro e w3 ⟨rfl, hb3⟩
    go_wp2_with fail
    have t1 := T1.out.below hb3
    have t0 := T0'.out.below hb3
    refine (markS_one v1 _ xs _ (by omega) t1).mono ?_
    rintro e w4 ⟨rfl, t1', hg4⟩
    have t0' := t0.apart L0.out t1 hg4
    have b4 : Below w.heap.size w w4 := ((hb1.trans (hb2.mono hb1.size)).trans (hb3.mono (Nat.le_trans hb1.size hb2.size))).trans (grownBy_below hg4 (Nat.le_trans hb1.size (Nat.le_trans hb2.size hb3.size)) (fun k hk => by have := (World.ownsRow.lt t1 k hk.symm.symm).1; have := hb1.size; omega))
    have T1' := Lib.hid t1'
    have T0'' := Lib.hid t0'
    clear t1 t0 t1' t0' hg4 T1 T0' L0 hb3 hb2 hb1
    go_wp2_with fail
    refine (heldS_one v1 xs.length _ _ (by omega) T1'.out).mono ?_
    rintro e w5 ⟨rfl, hb5⟩
    have m5 := T1'.out.below hb5
    have z5 := T0''.out.below hb5
    have b5 := b4.trans (hb5.mono b4.size)
    have M5 := Lib.hid m5
    have Z5 := Lib.hid z5
    clear m5 z5 T1' T0''
    go_wp2_with fail
    refine (HP.out _).mono ?_
    rintro e w6 ⟨v2, rfl, t2, hb6⟩
    have m6 := M5.out.below hb6
    have z6 := Z5.out.below hb6
    have b6 := b5.trans (hb6.mono b5.size)
    have T2 := Lib.hid t2
    have M6 := Lib.hid m6
    have Z6 := Lib.hid z6
    clear t2 m6 z6 M5 Z5
    go_wp2_with fail
    refine (eqS_same v2 v0 _ _ xs _ (by omega) T2.out Z6.out).mono ?_
    rintro e w7 ⟨rfl, hb7⟩
    have m7 := M6.out.below hb7
    have b7 := b6.trans (hb7.mono b6.size)
    have M7 := Lib.hid m7
    clear m7 M6 Z6 T2
    go_wp2_with fail
    refine (heldS_one v1 xs.length _ _ (by omega) M7.out).mono ?_
    rintro e w8 ⟨rfl, hb8⟩
    have b8 := b7.trans (hb8.mono b7.size)
    go_wp2_with fail
    go_ret
    exact ⟨rfl, b8⟩
end Go.Proofs.Ytgbfadfjbdjpeaa
