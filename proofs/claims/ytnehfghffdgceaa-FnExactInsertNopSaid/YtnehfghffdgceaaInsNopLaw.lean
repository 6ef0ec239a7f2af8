/- The exact law of InsertNop: whatever program and place are given, the program answers as the model; its answer owns its memory. -/
import Derived.Test.YtnehfghffdgceaaInsNopS
import Derived.Test.YtnehfghffdgceaaRowI
namespace Go.Proofs.Ytnehfghffdgceaa
open Go.RowKit Go

theorem marksI_rng (k n : Nat) (h : k + n ≤ 100000000) : ∀ x ∈ marksI k n, i64R x := by
  intro x hx
  obtain ⟨j, hj, rfl⟩ := List.getElem_of_mem hx
  rw [marksI_at]
  rw [marksI_len] at hj
  unfold i64R
  omega

theorem below_grownP {base B : Nat} {w w' : World} {v : Value} {n : Nat} {xs : List Int} (h : OwnP B w v n xs) (hg : w.grownBy w' v.ownBlock) (hb : base ≤ B) (hB : base ≤ w.heap.size) : Below base w w' :=
  grownBy_below hg hB (fun k e => by have := (World.ownsRow.lt h k e).1; omega)

theorem ins_rng {p : List I4} {k : Int} (h : ∀ x ∈ flat p, i64R x) : ∀ x ∈ flat (insRes p k), i64R x := by
  have key : ∀ q : List I4, (∀ x ∈ flat q, i64R x) ↔ ∀ i ∈ q, i64R i.o ∧ i64R i.a ∧ i64R i.b ∧ i64R i.c := by
    intro q
    induction q with
    | nil => simp [flat]
    | cons i q ih =>
      simp only [flat, List.mem_cons, forall_eq_or_imp, ih]
      constructor
      · rintro ⟨h1, h2, h3, h4, h5⟩
        exact ⟨⟨h1, h2, h3, h4⟩, h5⟩
      · rintro ⟨⟨h1, h2, h3, h4⟩, h5⟩
        exact ⟨h1, h2, h3, h4, h5⟩
  unfold insRes
  split
  · rename_i hi
    unfold insAt at hi
    simp only [Bool.and_eq_true] at hi
    have hsm := put_small (k := k.toNat) hi.1.1
    rw [key] at h ⊢
    intro i hm
    obtain ⟨j, hj, rfl⟩ := List.mem_map.1 hm
    have hjr : i64R j.o ∧ i64R j.a ∧ i64R j.b ∧ i64R j.c := by
      unfold putI at hj
      rcases List.mem_append.1 hj with h1 | h1
      · exact h _ (List.mem_of_mem_take h1)
      · rcases List.mem_cons.1 h1 with h2 | h2
        · subst h2; unfold nopI i64R; simp
        · exact h _ (List.mem_of_mem_drop h2)
    unfold bumpI
    split
    · rename_i hb
      have := hsm j hj hb.1
      obtain ⟨h1, h2, h3, h4⟩ := hjr
      refine ⟨h1, h2, ?_, h4⟩
      unfold i64R at *
      simp only
      omega
    · exact hjr
  · exact h

/-- A row that lies wholly above another one stays while that one is written. -/
theorem OwnP.apart2 {w w' : World} {b1 b2 : Nat} {v1 v2 : Value} {n1 n2 : Nat} {xs ys : List Int} (h : OwnP b1 w v1 n1 xs) (hlt : ∀ g, v2.ownBlock = some g → g < b1) (_h2 : OwnP b2 w v2 n2 ys) (hg : w.grownBy w' v2.ownBlock) : OwnP b1 w' v1 n1 xs := by
  refine World.ownsRow.kept h hg ?_
  cases hv : v1.ownBlock with
  | none => exact .inl rfl
  | some g =>
    refine .inr fun e => ?_
    have := hlt g e.symm
    have := (World.ownsRow.lt h g hv).1
    omega

set_option maxHeartbeats 2000000 in
theorem fnExactInsertNop_walk (a : Option Addr) (p : List I4) (cap : Nat) (k : Int) (w : World) (hm : p.length ≤ maxLen) (hn : Nums w.heap.size w a (flat p)) :
    Calls Try.prog 6 #[.slice a p.length cap, .int .i64 k] w fun e w' => e = .returned (.bool true) ∧ Below w.heap.size w w' := by
  have hm' : p.length ≤ 9223372036854775807 := by unfold maxLen at hm; omega
  have HN := Lib.hid hn
  have hz := fun W => szP_any a p.length cap 1048576 W (by omega) (by omega) hm'
  clear hn hm
  by_cases hbig : 1048576 < p.length
  · rw [if_pos (by omega)] at hz
    replace hz := Lib.hid hz
    go_enter Try.func6, Try.ntmps6
    go_wp2_with fail
    refine (hz.out _).mono ?_
    rintro e w' ⟨rfl, rfl⟩
    go_wp2_with fail
    go_ret
    exact ⟨rfl, Below.refl _ _⟩
  · rw [if_neg (by omega)] at hz
    have hs : p.length ≤ 1048576 := by omega
    have hd : decide ((1048576 : Int) - (p.length : Int) < 0) = false := by simp; omega
    replace hz := Lib.hid hz
    have hrg := Lib.hid HN.out.1
    have hq1 := ins_rng (k := k) HN.out.1
    have hq2 := insRes_len p k
    have hS := fun (B : Nat) (W : World) (g off : Nat) (h : Nums B W (some ⟨g, off, none⟩) (flat p)) (hB : B ≤ W.heap.size) => sInsertNop_any B W g off p p.length k hs (Nat.le_refl _) h hB
    have hP := fun (B : Nat) (W : World) (g off : Nat) (h : Nums B W (some ⟨g, off, none⟩) (flat p)) (hB : B ≤ W.heap.size) => pInsertNop_any B W g off p p.length k hs (Nat.le_refl _) h hB
    generalize insRes p k = q at *
    generalize insAt p k = b at *
    have hl2 : q.length ≤ 10000000 := by omega
    have HS := Lib.hid hS
    have HP := Lib.hid hP
    have hrq := Lib.hid hq1
    clear hS hP hq1 hq2
    go_enter Try.func6, Try.ntmps6
    go_wp2_with fail
    refine (hz.out _).mono ?_
    rintro e w' ⟨rfl, rfl⟩
    go_wp2_with fail
    refine (toInsS_any _ _ a p cap hs HN.out (Nat.le_refl _)).mono ?_
    rintro e w1 ⟨rfl, o1, b1⟩
    have N1 := Lib.hid (o1.nums hrg.out (Nat.le_refl _))
    have H1 := Lib.hid (HN.out.kept b1)
    have s1 := b1.size
    have A1 := Lib.hid b1
    clear o1 b1
    go_wp2_with fail
    refine (HS.out _ _ _ _ N1.out (Nat.le_refl _)).mono ?_
    rintro e w2 ⟨vw, rfl, o2, b2⟩
    obtain ⟨aw, cw, rfl⟩ := o2.form
    have s2 := b2.size
    have H2 := Lib.hid (H1.out.kept (b2.mono s1))
    have A2 := Lib.hid (A1.out.trans (b2.mono s1))
    have OW := Lib.hid o2
    clear o2 b2
    go_wp2_with fail
    refine (toInsS_any _ _ a p cap hs H2.out (by omega)).mono ?_
    rintro e w3 ⟨rfl, o3, b3⟩
    have s3 := b3.size
    have H3 := Lib.hid (H2.out.kept (b3.mono (by omega)))
    have A3 := Lib.hid (A2.out.trans (b3.mono (by omega)))
    have N3 := Lib.hid (o3.nums hrg.out (Nat.le_refl _))
    have OX := Lib.hid o3
    have OW3 := Lib.hid (OW.out.below b3)
    clear o3 b3
    go_wp2_with fail
    refine (HP.out _ _ _ _ N3.out (Nat.le_refl _)).mono ?_
    rintro e w4 ⟨vg, rfl, o4, b4⟩
    obtain ⟨ag, cg, rfl⟩ := o4.form
    have s4 := b4.size
    have H4 := Lib.hid (H3.out.kept (b4.mono (by omega)))
    have A4 := Lib.hid (A3.out.trans (b4.mono (by omega)))
    have OG := Lib.hid o4
    have OX4 := Lib.hid (OX.out.below b4)
    have OW4 := Lib.hid (OW3.out.below b4)
    clear o4 b4
    go_wp2_with fail
    refine (eqP_same _ _ _ _ _ _ q _ hl2 (OG.out.nums hrq.out (Nat.le_refl _)) (OW4.out.nums hrq.out (Nat.le_refl _)) (Nat.le_refl _) (Nat.le_refl _)).mono ?_
    rintro e w5 ⟨rfl, b5⟩
    have s5 := b5.size
    have H5 := Lib.hid (H4.out.kept (b5.mono (by omega)))
    have A5 := Lib.hid (A4.out.trans (b5.mono (by omega)))
    have OG5 := Lib.hid (OG.out.below b5)
    have OX5 := Lib.hid (OX4.out.below b5)
    have OW5 := Lib.hid (OW4.out.below b5)
    clear b5
    go_wp2_with fail
    refine (toInsS_any _ _ a p cap hs H5.out (by omega)).mono ?_
    rintro e w6 ⟨rfl, o6, b6⟩
    have s6 := b6.size
    have H6 := Lib.hid (H5.out.kept (b6.mono (by omega)))
    have A6 := Lib.hid (A5.out.trans (b6.mono (by omega)))
    have N6 := Lib.hid (o6.nums hrg.out (Nat.le_refl _))
    have OG6 := Lib.hid (OG5.out.below b6)
    have OX6 := Lib.hid (OX5.out.below b6)
    have OW6 := Lib.hid (OW5.out.below b6)
    clear o6 b6
    go_wp2_with fail
    refine (eqP_same _ _ _ _ _ _ p _ (by omega) (OX6.out.nums hrg.out (Nat.le_refl _)) N6.out (Nat.le_refl _) (Nat.le_refl _)).mono ?_
    rintro e w7 ⟨rfl, b7⟩
    have s7 := b7.size
    have H7 := Lib.hid (H6.out.kept (b7.mono (by omega)))
    have A7 := Lib.hid (A6.out.trans (b7.mono (by omega)))
    have OG7 := Lib.hid (OG6.out.below b7)
    have OX7 := Lib.hid (OX6.out.below b7)
    have OW7 := Lib.hid (OW6.out.below b7)
    clear b7
    go_wp2_with fail
    refine (markP_any _ 1 _ _ _ _ (by omega) (by omega) OX7.out).mono ?_
    rintro e w8 ⟨rfl, _, g8⟩
    have s8 : w7.heap.size ≤ w8.heap.size := g8.size
    have b8 := below_grownP (base := w.heap.size) OX7.out g8 (by omega) (by omega)
    have H8 := Lib.hid (H7.out.kept b8)
    have A8 := Lib.hid (A7.out.trans b8)
    have OG8 := Lib.hid (OG7.out.apart2 (fun g hg => (World.ownsRow.lt OX.out g hg).2) OX7.out g8)
    have OW8 := Lib.hid (OW7.out.apart (fun g hg => (World.ownsRow.lt OW.out g hg).2) OX7.out g8)
    clear g8 b8
    go_wp2_with fail
    refine (eqP_same _ _ _ _ _ _ q _ hl2 (OG8.out.nums hrq.out (Nat.le_refl _)) (OW8.out.nums hrq.out (Nat.le_refl _)) (Nat.le_refl _) (Nat.le_refl _)).mono ?_
    rintro e w9 ⟨rfl, b9⟩
    have s9 := b9.size
    have H9 := Lib.hid (H8.out.kept (b9.mono (by omega)))
    have A9 := Lib.hid (A8.out.trans (b9.mono (by omega)))
    have OG9 := Lib.hid (OG8.out.below b9)
    have OW9 := Lib.hid (OW8.out.below b9)
    clear b9
    go_wp2_with fail
    refine (markP_any _ 1 _ _ _ _ (by omega) hl2 OG9.out).mono ?_
    rintro e w10 ⟨rfl, o10, g10⟩
    have s10 : w9.heap.size ≤ w10.heap.size := g10.size
    have b10 := below_grownP (base := w.heap.size) OG9.out g10 (by omega) (by omega)
    have H10 := Lib.hid (H9.out.kept b10)
    have A10 := Lib.hid (A9.out.trans b10)
    have OW10 := Lib.hid (OW9.out.apart (fun g hg => by have := (World.ownsRow.lt OW.out g hg).2; omega) OG9.out g10)
    have OM := Lib.hid o10
    clear o10 g10 b10
    go_wp2_with fail
    refine (heldP_any _ 1 _ _ _ (by omega) hl2 OM.out).mono ?_
    rintro e w' ⟨rfl, rfl⟩
    go_wp2_with fail
    refine (toInsS_any _ _ a p cap hs H10.out (by omega)).mono ?_
    rintro e w11 ⟨rfl, o11, b11⟩
    have s11 := b11.size
    have A11 := Lib.hid (A10.out.trans (b11.mono (by omega)))
    have N11 := Lib.hid (o11.nums hrg.out (Nat.le_refl _))
    have OM11 := Lib.hid (OM.out.below b11)
    have OW11 := Lib.hid (OW10.out.below b11)
    clear o11 b11
    go_wp2_with fail
    refine (HP.out _ _ _ _ N11.out (Nat.le_refl _)).mono ?_
    rintro e w12 ⟨vh, rfl, o12, b12⟩
    obtain ⟨ah, ch, rfl⟩ := o12.form
    have s12 := b12.size
    have A12 := Lib.hid (A11.out.trans (b12.mono (by omega)))
    have OM12 := Lib.hid (OM11.out.below b12)
    have OW12 := Lib.hid (OW11.out.below b12)
    have OH := Lib.hid o12
    clear o12 b12
    go_wp2_with fail
    refine (eqP_same _ _ _ _ _ _ q _ hl2 (OH.out.nums hrq.out (Nat.le_refl _)) (OW12.out.nums hrq.out (Nat.le_refl _)) (Nat.le_refl _) (Nat.le_refl _)).mono ?_
    rintro e w13 ⟨rfl, b13⟩
    have A13 := Lib.hid (A12.out.trans (b13.mono (by omega)))
    have OM13 := Lib.hid (OM12.out.below b13)
    clear b13
    go_wp2_with fail
    refine (heldP_any _ 1 _ _ _ (by omega) hl2 OM13.out).mono ?_
    rintro e w' ⟨rfl, rfl⟩
    go_wp2_with fail
    go_ret
    exact ⟨rfl, A13.out⟩

end Go.Proofs.Ytnehfghffdgceaa
