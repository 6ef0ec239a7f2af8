/- The exact law of ParseProgram: whatever lines are given, the program answers as the model; its answer owns its memory. -/
import Derived.Test.YtceicbncnhmkoaaDoorParProgS
import Derived.Test.YtceicbncnhmkoaaDoorRowT
import Derived.Test.YtceicbncnhmkoaaDoorApart
namespace Go.Proofs.YtceicbncnhmkoaaDoor
open Go.RowKit Go

theorem parseAll_rng : ∀ {xs : List ByteArray} {p : List I4}, parseAll xs = some p → ∀ x ∈ flat p, i64R x
  | [], p, h, x, hx => by
    simp only [parseAll, Option.some.injEq] at h
    subst h
    simp [flat] at hx
  | s :: xs, p, h, x, hx => by
    simp only [parseAll] at h
    split at h
    · cases h
    · rename_i i hi
      cases hp : parseAll xs with
      | none => rw [hp] at h; cases h
      | some q =>
        rw [hp, Option.map_some, Option.some.injEq] at h
        subst h
        obtain ⟨h1, h2, h3, h4⟩ := parseL_small hi
        simp only [flat, List.mem_cons] at hx
        rcases hx with rfl | rfl | rfl | rfl | hx
        · exact h1
        · exact h2
        · exact h3
        · exact h4
        · exact parseAll_rng hp x hx
theorem progOf_ok (xs : List ByteArray) : (∀ x ∈ flat ((progOf xs).getD []), i64R x) ∧ ((progOf xs).getD []).length ≤ 32 := by
  unfold progOf
  cases h : parseAll xs with
  | none => exact ⟨fun x hx => by simp [flat] at hx, by simp⟩
  | some p =>
    simp only
    cases hok : progOk p with
    | true => rw [if_pos rfl]; exact ⟨parseAll_rng h, progOk_len hok⟩
    | false => rw [if_neg (by simp)]; exact ⟨fun x hx => by simp [flat] at hx, by simp⟩

theorem marksI_rng' (k n : Nat) (h : k + n ≤ 100000000) : ∀ x ∈ marksI k n, i64R x := by
  intro x hx
  obtain ⟨j, hj, rfl⟩ := List.getElem_of_mem hx
  rw [marksI_at]
  rw [marksI_len] at hj
  unfold i64R
  omega

set_option maxHeartbeats 2000000 in
theorem fnExactParseProgram_walk (a : Option Addr) (xs : List ByteArray) (cap : Nat) (w : World) (hm : xs.length ≤ maxLen) (hx : ∀ x ∈ xs, x.size ≤ maxLen) (hr : WordRow w a xs) (hn : NumVars w) :
    Calls Tryd.prog 7 #[.slice a xs.length cap] w fun e w' => e = .returned (.bool true) ∧ Below w.heap.size w w' := by
  have HN := Lib.hid hr
  have HV := Lib.hid hn
  have hz := Lib.hid (szS_any w a xs cap hm hx hr)
  have hS := fun (W : World) (a : Option Addr) (cap : Nat) (hl : xs.length ≤ 1048576) (h : WordRow W a xs) => sParProg_any W a xs cap hl h
  have hP := fun (W : World) (a : Option Addr) (cap : Nat) (hl : xs.length ≤ 1048576) (h : WordRow W a xs) hn => pParProg_any W a xs cap hl h hn
  obtain ⟨hq1, hq2⟩ := progOf_ok xs
  unfold ParProgSaid at hS hP
  generalize (progOf xs).getD [] = q at *
  generalize (progOf xs).isSome = b at *
  have HS := Lib.hid hS
  have HP := Lib.hid hP
  have hrq := Lib.hid hq1
  have hl2 : q.length ≤ 10000000 := by omega
  clear hS hP hm hx hr hn hq1
  go_enter Tryd.func7, Tryd.ntmps7
  go_wp2_with fail
  refine hz.out.mono ?_
  rintro e w' ⟨⟨r, rfl, hr1, hr2, hr3⟩, rfl⟩
  by_cases hneg : r < 0
  · go_wp2_with fail
    go_ret
    exact ⟨rfl, Below.refl _ _⟩
  · have hs : xs.length ≤ 1048576 := hr1 (by omega)
    clear hr1
    go_wp2_with fail
    refine (toStringS_any _ a xs cap hs HN.out).mono ?_
    rintro e w1 ⟨v1, rfl, o1, b1⟩
    obtain ⟨a1, c1, rfl⟩ := o1.form
    have N1 := Lib.hid o1.row
    have H1 := Lib.hid (HN.out.below b1)
    have s1 := b1.size
    have A1 := Lib.hid b1
    clear o1 b1
    go_wp2_with fail
    refine (HS.out _ _ _ hs N1.out).mono ?_
    rintro e w2 ⟨vw, rfl, o2, b2⟩
    obtain ⟨aw, cw, rfl⟩ := o2.form
    have s2 := b2.size
    have A2 := Lib.hid (A1.out.trans (b2.mono s1))
    have H2 := Lib.hid (HN.out.below A2.out)
    have OW := Lib.hid o2
    clear o2 b2
    go_wp2_with fail
    refine (toStringS_any _ a xs cap hs H2.out).mono ?_
    rintro e w3 ⟨vx, rfl, o3, b3⟩
    obtain ⟨ax, cx, rfl⟩ := o3.form
    have s3 := b3.size
    have A3 := Lib.hid (A2.out.trans (b3.mono (by omega)))
    have H3 := Lib.hid (HN.out.below A3.out)
    have N3 := Lib.hid o3.row
    have OX := Lib.hid o3
    have OW3 := Lib.hid (OW.out.below b3)
    clear o3 b3
    go_wp2_with fail
    refine (HP.out _ _ _ hs N3.out (HV.out.below A3.out (Nat.le_refl _))).mono ?_
    rintro e w4 ⟨vg, rfl, o4, b4⟩
    obtain ⟨ag, cg, rfl⟩ := o4.form
    have s4 := b4.size
    have A4 := Lib.hid (A3.out.trans (b4.mono (by omega)))
    have OG := Lib.hid o4
    have OX4 := Lib.hid (OX.out.below b4)
    have OW4 := Lib.hid (OW3.out.below b4)
    clear o4 b4
    go_wp2_with fail
    refine (eqP_same _ _ _ _ _ _ q _ hl2 (OG.out.nums hrq.out (Nat.le_refl _)) (OW4.out.nums hrq.out (Nat.le_refl _)) (Nat.le_refl _) (Nat.le_refl _)).mono ?_
    rintro e w5 ⟨rfl, b5⟩
    have s5 := b5.size
    have A5 := Lib.hid (A4.out.trans (b5.mono (by omega)))
    have H5 := Lib.hid (HN.out.below A5.out)
    have OG5 := Lib.hid (OG.out.below b5)
    have OX5 := Lib.hid (OX4.out.below b5)
    have OW5 := Lib.hid (OW4.out.below b5)
    clear b5
    go_wp2_with fail
    refine (toStringS_any _ a xs cap hs H5.out).mono ?_
    rintro e w6 ⟨vy, rfl, o6, b6⟩
    obtain ⟨ay, cy, rfl⟩ := o6.form
    have s6 := b6.size
    have A6 := Lib.hid (A5.out.trans (b6.mono (by omega)))
    have N6 := Lib.hid o6
    have OG6 := Lib.hid (OG5.out.below b6)
    have OX6 := Lib.hid (OX5.out.below b6)
    have OW6 := Lib.hid (OW5.out.below b6)
    clear o6 b6
    go_wp2_with fail
    refine (eqS_same _ _ _ _ xs _ (by omega) OX6.out N6.out).mono ?_
    rintro e w7 ⟨rfl, b7⟩
    have s7 := b7.size
    have A7 := Lib.hid (A6.out.trans (b7.mono (by omega)))
    have OG7 := Lib.hid (OG6.out.below b7)
    have OX7 := Lib.hid (OX6.out.below b7)
    have OW7 := Lib.hid (OW6.out.below b7)
    clear b7
    go_wp2_with fail
    refine (markS_one _ _ xs _ (by omega) OX7.out).mono ?_
    rintro e w8 ⟨rfl, _, g8⟩
    have s8 : w7.heap.size ≤ w8.heap.size := g8.size
    have b8 := below_grownR (base := w.heap.size) OX7.out g8 (by omega) (by omega)
    have A8 := Lib.hid (A7.out.trans b8)
    have OG8 := Lib.hid (show OwnP _ _ _ _ _ from rows_apart OG7.out OX7.out (.inr fun g hg => (World.ownsRow.lt OX.out g hg).2) g8)
    have OW8 := Lib.hid (show OwnP _ _ _ _ _ from rows_apart OW7.out OX7.out (.inl fun g hg => (World.ownsRow.lt OW.out g hg).2) g8)
    clear g8 b8
    go_wp2_with fail
    refine (eqP_same _ _ _ _ _ _ q _ hl2 (OG8.out.nums hrq.out (Nat.le_refl _)) (OW8.out.nums hrq.out (Nat.le_refl _)) (Nat.le_refl _) (Nat.le_refl _)).mono ?_
    rintro e w9 ⟨rfl, b9⟩
    have s9 := b9.size
    have A9 := Lib.hid (A8.out.trans (b9.mono (by omega)))
    have OG9 := Lib.hid (OG8.out.below b9)
    have OW9 := Lib.hid (OW8.out.below b9)
    clear b9
    go_wp2_with fail
    refine (markP_any _ 1 _ _ _ _ (by omega) hl2 OG9.out).mono ?_
    rintro e w10 ⟨rfl, o10, g10⟩
    have s10 : w9.heap.size ≤ w10.heap.size := g10.size
    have b10 := below_grownR (base := w.heap.size) OG9.out g10 (by omega) (by omega)
    have A10 := Lib.hid (A9.out.trans b10)
    have H10 := Lib.hid (HN.out.below A10.out)
    have OW10 := Lib.hid (show OwnP _ _ _ _ _ from rows_apart OW9.out OG9.out (.inl fun g hg => by have := (World.ownsRow.lt OW.out g hg).2; omega) g10)
    have OM := Lib.hid o10
    clear o10 g10 b10
    go_wp2_with fail
    refine (heldP_any _ 1 _ _ _ (by omega) hl2 OM.out).mono ?_
    rintro e w' ⟨rfl, rfl⟩
    go_wp2_with fail
    refine (toStringS_any _ a xs cap hs H10.out).mono ?_
    rintro e w11 ⟨vz, rfl, o11, b11⟩
    obtain ⟨az, cz, rfl⟩ := o11.form
    have s11 := b11.size
    have A11 := Lib.hid (A10.out.trans (b11.mono (by omega)))
    have N11 := Lib.hid o11.row
    have OM11 := Lib.hid (OM.out.below b11)
    have OW11 := Lib.hid (OW10.out.below b11)
    clear o11 b11
    go_wp2_with fail
    refine (HP.out _ _ _ hs N11.out (HV.out.below A11.out (Nat.le_refl _))).mono ?_
    rintro e w12 ⟨vh, rfl, o12, b12⟩
    obtain ⟨ah, ch, rfl⟩ := o12.form
    have s12 := b12.size
    have A12 := Lib.hid (A11.out.trans (b12.mono (by omega)))
    have OM12 := Lib.hid (OM11.out.below b12)
    have OW12 := Lib.hid (OW11.out.below b12)
    have OH := Lib.hid o12
    clear o12 b12
    go_wp2_with fail
    refine (eqP_same _ _ _ _ _ _ q _ hl2 (OH.out.nums hrq.out (Nat.le_refl _)) (OW12.out.nums hrq.out (Nat.le_refl _)) (Nat.le_refl _) (Nat.le_refl _)).mono ?_
    rintro e w13 ⟨rfl, b13⟩
    have A13 := Lib.hid (A12.out.trans (b13.mono (by omega)))
    have OM13 := Lib.hid (OM12.out.below b13)
    clear b13
    go_wp2_with fail
    refine (heldP_any _ 1 _ _ _ (by omega) hl2 OM13.out).mono ?_
    rintro e w' ⟨rfl, rfl⟩
    go_wp2_with fail
    go_ret
    exact ⟨rfl, A13.out⟩

end Go.Proofs.YtceicbncnhmkoaaDoor
