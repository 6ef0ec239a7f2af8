/- FormatProgram, the program's and the model's. -/
import Derived.Test.YtceicbncnhmkoaaDoorTextsMore
import Derived.Test.YtceicbncnhmkoaaDoorProgP
import Derived.Test.YtceicbncnhmkoaaDoorFmtInsLaw
namespace Go.Proofs.YtceicbncnhmkoaaDoor
open Go.RowKit Go

def insTx (i : I4) : ByteArray := insText i.o i.a i.b i.c
/-- The lines of a program, none where it is not valid. -/
def fmtP (p : List I4) : List ByteArray := if progOk p = true then p.map insTx else []
def FmtProgSaid (p : List I4) (w : World) (e : Ending) (w' : World) : Prop := ∃ v, e = .returned (.tuple #[v, .bool (progOk p)]) ∧ Texts w' w.heap.size v (fmtP p) ∧ Below w.heap.size w w'

theorem fmtP_len {p : List I4} (h : progOk p = true) : (fmtP p).length = p.length := by unfold fmtP; rw [if_pos h, List.length_map]
theorem fmtP_at {p : List I4} (h : progOk p = true) (k : Nat) (hk : k < (fmtP p).length) (hk2 : k < p.length) : (fmtP p)[k] = insTx p[k] := by
  simp only [fmtP, if_pos h, List.getElem_map]

set_option maxRecDepth 100000 in
set_option maxHeartbeats 1000000 in
theorem pFmtProg_any (w : World) (a : Option Addr) (p : List I4) (cap : Nat) (hl : p.length ≤ 10000000) (h : Nums w.heap.size w a (flat p)) (hN : NamesIs w) (hp : Pow10 w) :
    Calls Tryd.prog 10 #[.slice a p.length cap] w (FmtProgSaid p w) := by
  have h1 := pProgramOk_any w.heap.size w a p cap hl h (Nat.le_refl _)
  cases hok : progOk p with
  | false =>
    rw [hok] at h1
    have HE : Hid (fmtP p = []) := by unfold fmtP; rw [hok]; rfl
    replace h1 := Lib.hid h1
    unfold FmtProgSaid
    rw [hok]
    clear hok h hN hp
    go_enter Tryd.func10, Tryd.ntmps10
    go_wp2_with fail
    refine h1.out.mono ?_
    rintro e w1 ⟨rfl, b1⟩
    go_wp2_with fail
    go_ret2
    exact ⟨_, rfl, by rw [HE.out]; exact World.ownsRow_nil _ _ _ _, b1⟩
  | true =>
    rw [hok] at h1
    replace h1 := Lib.hid h1
    have hlen := fmtP_len hok
    have h32 := progOk_len hok
    have HAt := Lib.hid (fmtP_at hok)
    have HS : Hid (∀ v w', Texts w' w.heap.size v (fmtP p) → Below w.heap.size w w' → FmtProgSaid p w (.returned (.tuple #[v, .bool true])) w') := fun v w' ht hb => ⟨v, by rw [hok], ht, hb⟩
    obtain ⟨i0, hi, hz0, hz1, hz2⟩ := info_parts info_9
    have HH := Lib.hid h
    have HN := Lib.hid hN
    have HP := Lib.hid hp
    have hm : p.length ≤ maxLen := by unfold maxLen; omega
    generalize fmtP p = xs at *
    clear hok h hN hp
    go_enter Tryd.func10, Tryd.ntmps10
    go_wp2_with fail
    refine h1.out.mono ?_
    rintro e w1 ⟨rfl, b1⟩
    have B1 := Lib.hid b1
    have hs1 := b1.size
    clear b1
    go_wp2_with (at_make; refine wpList_make_full _ rfl _ _ _ rfl w1.heap.size 9 i0 (.string ⟨#[]⟩) 1 Tryd.underlying26 hi hz0 hz1 .i64 .i64 _ _ p.length rfl rfl rfl rfl (by rw [hz2]; omega) hm (Nat.le_refl _) ?_; intro w2 hown hgrow)
    rw [← hlen] at hown
    have HST := Lib.hid (fill_start B1.out hown hgrow)
    rw [hlen] at hown
    clear hown hgrow
    go_wp2_with fail
    go_loopw [15] (fun i wr => FillRel xs w w1.heap.size i wr) (fun i _ => p.length - (intOf i).toNat)
    case atStart => exact HST.out
    case round =>
      obtain ⟨k, hk, rfl, hown, hbel⟩ := hrel
      by_cases hlt : k < p.length
      · have hlt2 : k < xs.length := by omega
        obtain ⟨g, off, rfl, hg, c0, c1, c2, c3⟩ := (HH.out.kept hbel).at4 k hlt
        have h3 := fun W hN hp => pFmt_any p[k].o p[k].a p[k].b p[k].c W hN hp
        have hat := HAt.out k hlt2 hlt
        unfold insTx at hat
        rw [← hat] at h3
        have HF := Lib.hid h3
        have HO := Lib.hid hown
        have hsz := hbel.size
        have HNX := Lib.hid (fun (wr : World) => @fill_next xs w wr w1.heap.size k hlt2 hs1)
        have HFC := Lib.hid (fun (wr : World) => @fill_cell xs w wr w1.heap.size k hlt2)
        clear hat h3 hown
        generalize p[k] = x at *
        generalize xs[k] = t at *
        have K1 := Lib.hid (Blk.new wr (insC x.o x.a x.b x.c) _ rfl)
        have hgl : g < wr.heap.size := Nat.lt_of_lt_of_le hg hsz
        go_wp2_with fail
        refine (HF.out _ (HN.out.below (hbel.alloc hsz _) (Nat.le_refl _)) (HP.out.below (hbel.alloc hsz _) (Nat.le_refl _))).mono ?_
        rintro e w4 ⟨rfl, b4⟩
        have HO4 := Lib.hid ((HO.out.alloc (.cells (insC x.o x.a x.b x.c) 32)).below b4)
        have HB4 := Lib.hid ((hbel.alloc hsz (.cells (insC x.o x.a x.b x.c) 32)).trans (b4.mono (by simp; omega)))
        obtain ⟨⟨x0, d0⟩, f0⟩ := HFC.out _ HO4.out
        have HNX4 := Lib.hid (HNX.out _ HO4.out HB4.out)
        clear b4 c0 c1 c2 c3
        have hlx : (k : Int) < (p.length : Int) := by omega
        go_wp2_with fail
        go_roundw
        case rel => exact HNX4.out
        case measure => simp [intOf]; omega
      · obtain rfl : k = xs.length := by omega
        rw [fillT_end] at hown
        have HO := Lib.hid hown
        clear hown
        go_wp2_with fail
        go_ret2
        exact HS.out _ _ (by rw [hlen] at HO; exact HO.out) hbel

end Go.Proofs.YtceicbncnhmkoaaDoor
