/- FormatProgram of the model. -/
import Derived.Test.YtceicbncnhmkoaaDoorFmtProg
import Derived.Test.YtceicbncnhmkoaaDoorSplitS
namespace Go.Proofs.YtceicbncnhmkoaaDoor
open Go.RowKit Go

set_option maxRecDepth 100000 in
set_option maxHeartbeats 1000000 in
theorem sFmtProg_any (w : World) (a : Option Addr) (p : List I4) (cap : Nat) (hl : p.length ≤ 10000000) (h : Nums w.heap.size w a (flat p)) :
    Calls Tryd.prog 20 #[.slice a p.length cap] w (FmtProgSaid p w) := by
  have h1 := fun W h hB => sProgramOk_any w.heap.size W a p cap hl h hB
  have b0 := (Below.refl w.heap.size w).alloc (Nat.le_refl _) (.cells #[] 9)
  have HB0 := Lib.hid b0
  cases hok : progOk p with
  | false =>
    rw [hok] at h1
    have HE : Hid (fmtP p = []) := by unfold fmtP; rw [hok]; rfl
    have HH := Lib.hid (h.kept b0)
    replace h1 := Lib.hid h1
    unfold FmtProgSaid
    rw [hok]
    clear hok h b0
    go_enter Tryd.func20, Tryd.ntmps20
    go_wp2_with fail
    refine (h1.out _ HH.out (by simp)).mono ?_
    rintro e w1 ⟨rfl, b1⟩
    have T1 := Lib.hid ((texts_made w).below b1)
    have B1 := Lib.hid (HB0.out.trans (b1.mono (by simp)))
    go_wp2_with fail
    go_ret2
    exact ⟨_, rfl, by rw [HE.out]; exact T1.out, B1.out⟩
  | true =>
    rw [hok] at h1
    replace h1 := Lib.hid h1
    have hlen := fmtP_len hok
    have h32 := progOk_len hok
    have HAt := Lib.hid (fmtP_at hok)
    have HS : Hid (∀ v w', Texts w' w.heap.size v (fmtP p) → Below w.heap.size w w' → FmtProgSaid p w (.returned (.tuple #[v, .bool true])) w') := fun v w' ht hb => ⟨v, by rw [hok], ht, hb⟩
    obtain ⟨i0, hi0, hz0, hz1, hz2⟩ := info_parts info_9
    have HH0 := Lib.hid (h.kept b0)
    have HH := Lib.hid h
    generalize fmtP p = xs at *
    clear hok h b0
    go_enter Tryd.func20, Tryd.ntmps20
    go_wp2_with fail
    refine (h1.out _ HH0.out (by simp)).mono ?_
    rintro e w1 ⟨rfl, b1⟩
    have T1 := Lib.hid ((texts_made w).below b1)
    have B1 := Lib.hid (HB0.out.trans (b1.mono (by simp)))
    clear b1
    go_wp2_with fail
    go_loopw [4, 5] (fun v i wr => ∃ k : Nat, k ≤ xs.length ∧ i = .int .i64 k ∧ Texts wr w.heap.size v (xs.take k) ∧ Below w.heap.size w wr) (fun _ i _ => p.length - (intOf i).toNat)
    case atStart => exact ⟨0, Nat.zero_le _, rfl, T1.out, B1.out⟩
    case round =>
      obtain ⟨k, hk, rfl, hown, hbel⟩ := hrel
      by_cases hlt : k < p.length
      · have hlt2 : k < xs.length := by omega
        obtain ⟨g, off, rfl, hg, c0, c1, c2, c3⟩ := (HH.out.kept hbel).at4 k hlt
        have h3 := fun W => sFmt_any p[k].o p[k].a p[k].b p[k].c W
        have hat := HAt.out k hlt2 hlt
        unfold insTx at hat
        rw [← hat] at h3
        have HF := Lib.hid h3
        have HO := Lib.hid hown
        have hsz := hbel.size
        have HT := Lib.hid (List.take_succ_eq_append_getElem hlt2)
        have htl : (xs.take k).length = k := by rw [List.length_take]; omega
        clear hat h3 hown
        generalize p[k] = x at *
        generalize xs[k] = t at *
        go_wp2_with fail
        refine (HF.out _).mono ?_
        rintro e w4 ⟨rfl, b4⟩
        have HO4 := Lib.hid (HO.out.below b4)
        have HB4 := Lib.hid (hbel.trans (b4.mono hsz))
        have hs4 := HB4.out.size
        clear b4 c0 c1 c2 c3
        go_wp2_with (at_builtin; refine wpList_append_own _ rfl _ _ 26 rfl w.heap.size 9 i0 (.string ⟨#[]⟩) 1 16 Tryd.underlying26 hi0 hz0 hz1 hz2 rfl (by decide) _ _ _ rfl (HO4.out.alloc _) ⟨w4.heap.size, 0, none⟩ 1 1 [.string t] rfl rfl (cell_one_new _ _ _) (by simp [Value.oneCell']) (by unfold maxLen; omega) (by omega) (by simp; omega) ?_; intro v' w5 hown5 hgrow5 _)
        have HO5 := Lib.hid (texts_snoc rfl hown5)
        have HB5 := Lib.hid (below_own1 HB4.out HB4.out.size HO4.out hgrow5)
        clear hown5 hgrow5
        go_roundw
        case rel => exact ⟨k + 1, hlt2, by go_num, by rw [HT.out]; exact HO5.out, HB5.out⟩
        case measure => simp [intOf]; omega
      · obtain rfl : k = xs.length := by omega
        rw [List.take_length] at hown
        have HO := Lib.hid hown
        clear hown
        obtain ⟨av, cv, rfl⟩ := HO.out.form
        go_wp2_with fail
        go_ret2
        exact HS.out _ _ HO.out hbel

end Go.Proofs.YtceicbncnhmkoaaDoor
