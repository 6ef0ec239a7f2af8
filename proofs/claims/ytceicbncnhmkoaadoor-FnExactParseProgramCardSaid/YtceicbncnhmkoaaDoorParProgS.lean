/- ParseProgram of the model. -/
import Derived.Test.YtceicbncnhmkoaaDoorParProg
import Derived.Test.YtceicbncnhmkoaaDoorProgsMore
namespace Go.Proofs.YtceicbncnhmkoaaDoor
open Go.RowKit Go

theorem ins_src (w : World) (o a b c : Int) (n : Nat) (hn : n = w.heap.size) : ∀ j u, (([o, a, b, c] : List Int).map (Value.int .i64))[j]? = some u → (w.alloc (.cells (insC o a b c) 32)).cell? ((⟨n, 0, none⟩ : Addr).add j) = some u := by
  intro j u h
  subst hn
  have h4 : j = 0 ∨ j = 1 ∨ j = 2 ∨ j = 3 := by
    have := (List.getElem?_eq_some_iff.1 h).1
    simp at this
    omega
  rcases h4 with rfl | rfl | rfl | rfl <;> (simp at h; subst h; simp [Addr.add])

set_option maxRecDepth 100000 in
set_option maxHeartbeats 1000000 in
theorem sParProg_any (w : World) (a : Option Addr) (xs : List ByteArray) (cap : Nat) (hl : xs.length ≤ 1048576) (h : WordRow w a xs) :
    Calls Tryd.prog 28 #[.slice a xs.length cap] w (ParProgSaid xs w) := by
  have HH := Lib.hid h
  clear h
  have b0 := (Below.refl w.heap.size w).alloc (Nat.le_refl _) (.cells #[] 32)
  have HB0 := Lib.hid b0
  have HM := Lib.hid (ownP_made w w.heap.size (Nat.le_refl _))
  clear b0
  go_enter Tryd.func28, Tryd.ntmps28
  go_wp2_with fail
  go_loopw [4, 5] (fun v i wr => ∃ ps : List I4, ps.length ≤ xs.length ∧ i = .int .i64 ps.length ∧ Hid (parseAll xs = (parseAll (xs.drop ps.length)).map (ps ++ ·)) ∧ Hid (∀ x ∈ flat ps, i64R x) ∧ OwnP w.heap.size wr v ps.length (flat ps) ∧ Below w.heap.size w wr) (fun _ i _ => xs.length - (intOf i).toNat)
  case atStart => exact ⟨[], Nat.zero_le _, rfl, (by show parseAll xs = (parseAll (xs.drop 0)).map ([] ++ ·); simp), fun x hx => by simp [flat] at hx, HM.out, HB0.out⟩
  case round =>
    obtain ⟨ps, hk, rfl, HA, HR, hown, hbel⟩ := hrel
    have hsz := hbel.size
    by_cases hlt : ps.length < xs.length
    · obtain ⟨g, off, rfl, hg, c0⟩ := (HH.out.below hbel) ps.length hlt
      have hst := parseAll_step hlt HA.out
      have hps := fun (i : I4) (h : parseL xs[ps.length] = some i) => parseL_small h
      have HO := Lib.hid hown
      have h3 := fun W => sParse_any xs[ps.length] W
      clear hown
      generalize xs[ps.length] = t at *
      cases hpl : parseL t with
      | none =>
        rw [hpl] at hst h3
        simp only at hst
        simp only [parV] at h3
        replace h3 := Lib.hid h3
        have HP := Lib.hid (show progOf xs = none by unfold progOf; rw [hst])
        clear hst hpl hps
        go_wp2_with fail
        refine (h3.out _).mono ?_
        rintro e w4 ⟨rfl, b4⟩
        have HB4 := Lib.hid (hbel.trans (b4.mono hsz))
        clear b4 c0
        have HB5 := Lib.hid (HB4.out.alloc HB4.out.size (.cells (insC 0 0 0 0) 32))
        have HB6 := Lib.hid (HB5.out.alloc HB5.out.size (.cells #[] 32))
        have HM6 := Lib.hid (ownP_made _ w.heap.size HB5.out.size)
        go_wp2_with fail
        go_ret2
        exact par_none HP.out (by have := HM6.out; simpa using this) HB6.out
      | some i =>
        rw [hpl] at hst h3
        simp only at hst
        simp only [parV, insV] at h3
        replace h3 := Lib.hid h3
        have hsm := hps i hpl
        have HST := Lib.hid hst
        have HSM := Lib.hid (flat_snoc_rng HR.out hsm)
        have HFA := Lib.hid (show flat (ps ++ [i]) = flat ps ++ [i.o, i.a, i.b, i.c] by rw [flat_append]; rfl)
        clear hst hpl hps hsm
        go_wp2_with fail
        refine (h3.out _).mono ?_
        rintro e w4 ⟨rfl, b4⟩
        have HB4 := Lib.hid (hbel.trans (b4.mono hsz))
        have HO4 := Lib.hid (HO.out.below b4)
        have HB5 := Lib.hid (HB4.out.alloc HB4.out.size (.cells (insC i.o i.a i.b i.c) 32))
        have HO5 := Lib.hid (HO4.out.alloc (.cells (insC i.o i.a i.b i.c) 32))
        have hs4 := HB4.out.size
        clear b4 c0
        have HSRC := Lib.hid (ins_src (w4.alloc (.cells (insC i.o i.a i.b i.c) 32)) i.o i.a i.b i.c (w4.heap.size + 1) (by simp))
        go_wp2_with (at_builtin; refine wpList_append_ownP rfl (.tmp 26) (.tmp 28) rfl w.heap.size _ ps.length (flat ps) rfl (HO5.out.alloc _) ⟨w4.heap.size + 1, 0, none⟩ 1 1 [i.o, i.a, i.b, i.c] rfl rfl HSRC.out (by omega) (by simp; omega) ?_; intro v2 w2 ho2 hg2)
        have HO6 := Lib.hid (show OwnP w.heap.size w2 v2 (ps ++ [i]).length (flat (ps ++ [i])) by rw [HFA.out, List.length_append]; exact ho2.out)
        have HB6 := Lib.hid (below_own1 HB5.out HB5.out.size HO5.out hg2.out)
        clear ho2 hg2
        have hl6 : (ps ++ [i]).length = ps.length + 1 := by simp
        have HL6 := Lib.hid hl6
        clear hl6
        go_roundw
        case rel => exact ⟨ps ++ [i], by rw [HL6.out]; exact hlt, by rw [HL6.out]; go_num, by rw [HL6.out]; exact HST.out, HSM.out, HO6.out, HB6.out⟩
        case measure => simp [intOf]; omega
    · have hpe : ps.length = xs.length := by omega
      have hpe0 := Lib.hid hpe
      have hall : parseAll xs = some ps := by
        have h := HA.out
        rw [List.drop_of_length_le (by omega)] at h
        simpa [parseAll] using h
      clear hpe
      obtain ⟨av, cv, rfl⟩ := hown.form
      have h4 := sProgramOk_any wr.heap.size wr av ps cv (by rw [hpe0.out]; omega) (hown.nums HR.out (Nat.le_refl _)) (Nat.le_refl _)
      have HO := Lib.hid hown
      clear hown
      cases hok : progOk ps with
      | false =>
        rw [hok] at h4
        have HP := Lib.hid (show progOf xs = none by unfold progOf; rw [hall]; simp [hok])
        replace h4 := Lib.hid h4
        clear hok hall
        go_wp2_with fail
        refine h4.out.mono ?_
        rintro e w4 ⟨rfl, b4⟩
        have HB4 := Lib.hid (hbel.trans (b4.mono hsz))
        have HB6 := Lib.hid (HB4.out.alloc HB4.out.size (.cells #[] 32))
        have HM6 := Lib.hid (ownP_made w4 w.heap.size HB4.out.size)
        clear b4
        go_wp2_with fail
        go_ret2
        exact par_none HP.out HM6.out HB6.out
      | true =>
        rw [hok] at h4
        have HP := Lib.hid (show progOf xs = some ps by unfold progOf; rw [hall]; simp [hok])
        replace h4 := Lib.hid h4
        clear hok hall
        go_wp2_with fail
        refine h4.out.mono ?_
        rintro e w4 ⟨rfl, b4⟩
        have HB4 := Lib.hid (hbel.trans (b4.mono hsz))
        have HO4 := Lib.hid (HO.out.below b4)
        clear b4
        go_wp2_with fail
        go_ret2
        exact par_some HP.out HO4.out HB4.out

end Go.Proofs.YtceicbncnhmkoaaDoor
