/- The exact law of FormatProgram: whatever program is given, the program answers as the model; its answer owns its memory. -/
import Derived.Test.YtceicbncnhmkoaaDoorFmtProgS
import Derived.Test.YtceicbncnhmkoaaDoorRowI
namespace Go.Proofs.YtceicbncnhmkoaaDoor
open Go.RowKit Go

/-- A row that lies wholly below another one's base, or wholly above it, stays while that one is written. -/
theorem rows_apart {w w' : World} {b1 b2 n1 n2 s1 s2 : Nat} {e1 e2 : TypeId} {v1 v2 : Value} {xs ys : List Value} (h : w.ownsRow b1 e1 s1 v1 n1 xs) (h2 : w.ownsRow b2 e2 s2 v2 n2 ys)
    (hlt : (∀ g, v1.ownBlock = some g → g < b2) ∨ ∀ g, v2.ownBlock = some g → g < b1) (hg : w.grownBy w' v2.ownBlock) : w'.ownsRow b1 e1 s1 v1 n1 xs := by
  refine World.ownsRow.kept h hg ?_
  cases hv : v1.ownBlock with
  | none => exact .inl rfl
  | some g =>
    refine .inr fun e => ?_
    have h3 := (World.ownsRow.lt h2 g e.symm).1
    have h4 := (World.ownsRow.lt h g hv).1
    rcases hlt with hlt | hlt
    · have := hlt g hv; omega
    · have := hlt g e.symm; omega

theorem below_grownR {base B n s : Nat} {e : TypeId} {w w' : World} {v : Value} {xs : List Value} (h : w.ownsRow B e s v n xs) (hg : w.grownBy w' v.ownBlock) (hb : base ≤ B) (hB : base ≤ w.heap.size) : Below base w w' :=
  grownBy_below hg hB (fun k e => by have := (World.ownsRow.lt h k e).1; omega)

theorem fmtP_small (p : List I4) : (fmtP p).length ≤ 32 := by
  cases h : progOk p with
  | true => rw [fmtP_len h]; exact progOk_len h
  | false => unfold fmtP; rw [h]; simp

set_option maxHeartbeats 2000000 in
theorem fnExactFormatProgram_walk (a : Option Addr) (p : List I4) (cap : Nat) (w : World) (hm : p.length ≤ maxLen) (hn : Nums w.heap.size w a (flat p)) (hN : NamesIs w) (hp : Pow10 w) :
    Calls Tryd.prog 6 #[.slice a p.length cap] w fun e w' => e = .returned (.bool true) ∧ Below w.heap.size w w' := by
  have hm' : p.length ≤ 9223372036854775807 := by unfold maxLen at hm; omega
  have HN := Lib.hid hn
  have HNm := Lib.hid hN
  have HPw := Lib.hid hp
  have hz := fun W => szP_any a p.length cap 1048576 W (by omega) (by omega) hm'
  clear hn hm hN hp
  by_cases hbig : 1048576 < p.length
  · rw [if_pos (by omega)] at hz
    replace hz := Lib.hid hz
    go_enter Tryd.func6, Tryd.ntmps6
    go_wp2_with fail
    refine (hz.out _).mono ?_
    rintro e w' ⟨rfl, rfl⟩
    go_wp2_with fail
    go_ret
    exact ⟨rfl, Below.refl _ _⟩
  · rw [if_neg (by omega)] at hz
    have hs : p.length ≤ 1048576 := by omega
    have hd : decide ((1048576 : Int) - (p.length : Int) < 0) = false := by simp; omega
    replace hz := Lib.hid hz
    have hrg := Lib.hid HN.out.1
    have hS := fun (W : World) (a : Option Addr) (h : Nums W.heap.size W a (flat p)) => sFmtProg_any W a p p.length (by omega) h
    have hP := fun (W : World) (a : Option Addr) (h : Nums W.heap.size W a (flat p)) hN hp => pFmtProg_any W a p p.length (by omega) h hN hp
    have hq2 := fmtP_small p
    unfold FmtProgSaid at hS hP
    generalize fmtP p = q at *
    generalize progOk p = b at *
    have HS := Lib.hid hS
    have HP := Lib.hid hP
    clear hS hP
    go_enter Tryd.func6, Tryd.ntmps6
    go_wp2_with fail
    refine (hz.out _).mono ?_
    rintro e w' ⟨rfl, rfl⟩
    go_wp2_with fail
    refine (toInsS_any _ _ a p cap hs HN.out (Nat.le_refl _)).mono ?_
    rintro e w1 ⟨rfl, o1, b1⟩
    have N1 := Lib.hid (o1.nums hrg.out (Nat.le_refl _))
    have H1 := Lib.hid (HN.out.kept b1)
    have s1 := b1.size
    have A1 := Lib.hid b1
    clear o1 b1
    go_wp2_with fail
    refine (HS.out _ _ N1.out).mono ?_
    rintro e w2 ⟨vw, rfl, o2, b2⟩
    have s2 := b2.size
    have H2 := Lib.hid (H1.out.kept (b2.mono s1))
    have A2 := Lib.hid (A1.out.trans (b2.mono s1))
    have OW := Lib.hid o2
    clear o2 b2
    go_wp2_with fail
    refine (toInsS_any _ _ a p cap hs H2.out (by omega)).mono ?_
    rintro e w3 ⟨rfl, o3, b3⟩
    have s3 := b3.size
    have H3 := Lib.hid (H2.out.kept (b3.mono (by omega)))
    have A3 := Lib.hid (A2.out.trans (b3.mono (by omega)))
    have N3 := Lib.hid (o3.nums hrg.out (Nat.le_refl _))
    have OX := Lib.hid o3
    have OW3 := Lib.hid (OW.out.below b3)
    clear o3 b3
    go_wp2_with fail
    refine (HP.out _ _ N3.out (HNm.out.below A3.out (Nat.le_refl _)) (HPw.out.below A3.out (Nat.le_refl _))).mono ?_
    rintro e w4 ⟨vg, rfl, o4, b4⟩
    have s4 := b4.size
    have H4 := Lib.hid (H3.out.kept (b4.mono (by omega)))
    have A4 := Lib.hid (A3.out.trans (b4.mono (by omega)))
    have OG := Lib.hid o4
    have OX4 := Lib.hid (OX.out.below b4)
    have OW4 := Lib.hid (OW3.out.below b4)
    clear o4 b4
    go_wp2_with fail
    refine (eqS_same _ _ _ _ q _ (by omega) OG.out OW4.out).mono ?_
    rintro e w5 ⟨rfl, b5⟩
    have s5 := b5.size
    have H5 := Lib.hid (H4.out.kept (b5.mono (by omega)))
    have A5 := Lib.hid (A4.out.trans (b5.mono (by omega)))
    have OG5 := Lib.hid (OG.out.below b5)
    have OX5 := Lib.hid (OX4.out.below b5)
    have OW5 := Lib.hid (OW4.out.below b5)
    clear b5
    go_wp2_with fail
    refine (toInsS_any _ _ a p cap hs H5.out (by omega)).mono ?_
    rintro e w6 ⟨rfl, o6, b6⟩
    have s6 := b6.size
    have H6 := Lib.hid (H5.out.kept (b6.mono (by omega)))
    have A6 := Lib.hid (A5.out.trans (b6.mono (by omega)))
    have N6 := Lib.hid (o6.nums hrg.out (Nat.le_refl _))
    have OG6 := Lib.hid (OG5.out.below b6)
    have OX6 := Lib.hid (OX5.out.below b6)
    have OW6 := Lib.hid (OW5.out.below b6)
    clear o6 b6
    go_wp2_with fail
    refine (eqP_same _ _ _ _ _ _ p _ (by omega) (OX6.out.nums hrg.out (Nat.le_refl _)) N6.out (Nat.le_refl _) (Nat.le_refl _)).mono ?_
    rintro e w7 ⟨rfl, b7⟩
    have s7 := b7.size
    have H7 := Lib.hid (H6.out.kept (b7.mono (by omega)))
    have A7 := Lib.hid (A6.out.trans (b7.mono (by omega)))
    have OG7 := Lib.hid (OG6.out.below b7)
    have OX7 := Lib.hid (OX6.out.below b7)
    have OW7 := Lib.hid (OW6.out.below b7)
    clear b7
    go_wp2_with fail
    refine (markP_any _ 1 _ _ _ _ (by omega) (by omega) OX7.out).mono ?_
    rintro e w8 ⟨rfl, _, g8⟩
    have s8 : w7.heap.size ≤ w8.heap.size := g8.size
    have b8 := below_grownR (base := w.heap.size) OX7.out g8 (by omega) (by omega)
    have H8 := Lib.hid (H7.out.kept b8)
    have A8 := Lib.hid (A7.out.trans b8)
    have OG8 := Lib.hid (show Texts _ _ _ _ from rows_apart OG7.out OX7.out (.inr fun g hg => (World.ownsRow.lt OX.out g hg).2) g8)
    have OW8 := Lib.hid (show Texts _ _ _ _ from rows_apart OW7.out OX7.out (.inl fun g hg => (World.ownsRow.lt OW.out g hg).2) g8)
    clear g8 b8
    go_wp2_with fail
    refine (eqS_same _ _ _ _ q _ (by omega) OG8.out OW8.out).mono ?_
    rintro e w9 ⟨rfl, b9⟩
    have s9 := b9.size
    have H9 := Lib.hid (H8.out.kept (b9.mono (by omega)))
    have A9 := Lib.hid (A8.out.trans (b9.mono (by omega)))
    have OG9 := Lib.hid (OG8.out.below b9)
    have OW9 := Lib.hid (OW8.out.below b9)
    clear b9
    go_wp2_with fail
    refine (markS_one _ _ q _ (by omega) OG9.out).mono ?_
    rintro e w10 ⟨rfl, o10, g10⟩
    have s10 : w9.heap.size ≤ w10.heap.size := g10.size
    have b10 := below_grownR (base := w.heap.size) OG9.out g10 (by omega) (by omega)
    have H10 := Lib.hid (H9.out.kept b10)
    have A10 := Lib.hid (A9.out.trans b10)
    have OW10 := Lib.hid (show Texts _ _ _ _ from rows_apart OW9.out OG9.out (.inl fun g hg => by have := (World.ownsRow.lt OW.out g hg).2; omega) g10)
    have OM := Lib.hid o10
    clear o10 g10 b10
    go_wp2_with fail
    refine (heldS_one _ q.length _ _ (by omega) OM.out).mono ?_
    rintro e w10b ⟨rfl, b10⟩
    have s10b := b10.size
    have H10b := Lib.hid (H10.out.kept (b10.mono (by omega)))
    have A10b := Lib.hid (A10.out.trans (b10.mono (by omega)))
    have OM10 := Lib.hid (OM.out.below b10)
    have OW10b := Lib.hid (OW10.out.below b10)
    clear b10
    go_wp2_with fail
    refine (toInsS_any _ _ a p cap hs H10b.out (by omega)).mono ?_
    rintro e w11 ⟨rfl, o11, b11⟩
    have s11 := b11.size
    have A11 := Lib.hid (A10b.out.trans (b11.mono (by omega)))
    have N11 := Lib.hid (o11.nums hrg.out (Nat.le_refl _))
    have OM11 := Lib.hid (OM10.out.below b11)
    have OW11 := Lib.hid (OW10b.out.below b11)
    clear o11 b11
    go_wp2_with fail
    refine (HP.out _ _ N11.out (HNm.out.below A11.out (Nat.le_refl _)) (HPw.out.below A11.out (Nat.le_refl _))).mono ?_
    rintro e w12 ⟨vh, rfl, o12, b12⟩
    have s12 := b12.size
    have A12 := Lib.hid (A11.out.trans (b12.mono (by omega)))
    have OM12 := Lib.hid (OM11.out.below b12)
    have OW12 := Lib.hid (OW11.out.below b12)
    have OH := Lib.hid o12
    clear o12 b12
    go_wp2_with fail
    refine (eqS_same _ _ _ _ q _ (by omega) OH.out OW12.out).mono ?_
    rintro e w13 ⟨rfl, b13⟩
    have s13 := b13.size
    have A13 := Lib.hid (A12.out.trans (b13.mono (by omega)))
    have OM13 := Lib.hid (OM12.out.below b13)
    clear b13
    go_wp2_with fail
    refine (heldS_one _ q.length _ _ (by omega) OM13.out).mono ?_
    rintro e w14 ⟨rfl, b14⟩
    have A14 := Lib.hid (A13.out.trans (b14.mono (by omega)))
    go_wp2_with fail
    go_ret
    exact ⟨rfl, A14.out⟩

end Go.Proofs.YtceicbncnhmkoaaDoor
