/- FnListings: programs can be parsed from their text. -/
import Derived.Test.YtceicbncnhmkoaaDoorListMath
import Derived.Test.YtceicbncnhmkoaaDoorDrawQuiet
import Derived.Test.YtceicbncnhmkoaaDoorProgSame
import Derived.Test.YtceicbncnhmkoaaDoorNumber
import Derived.Deep.RegionHeld3
namespace Go.Proofs.YtceicbncnhmkoaaDoor
open Go.RowKit Go

theorem ok_small_rng {p : List I4} (h : progOk p = true) : ∀ x ∈ flat p, i64R x := by
  have key : ∀ q : List I4, (∀ i ∈ q, insOk i.o i.a i.b i.c 32 = true) → ∀ x ∈ flat q, i64R x := by
    intro q
    induction q with
    | nil => intro _ x hx; simp [flat] at hx
    | cons i q ih =>
      intro hq x hx
      obtain ⟨h0, h1, h2, h3⟩ := ok_small (hq i (by simp))
      have := inO_iff.1 h0
      simp only [flat, List.mem_cons] at hx
      unfold smallF at h1 h2 h3
      unfold i64R
      rcases hx with rfl | rfl | rfl | rfl | hx
      · omega
      · omega
      · omega
      · omega
      · exact ih (fun j hj => hq j (List.mem_cons_of_mem _ hj)) x hx
  have h32 := progOk_len h
  unfold progOk at h
  rw [List.all_eq_true] at h
  exact key p fun i hi => ok_32 (h i hi) h32

theorem cell_below {w w' : World} {p : Addr} {v : Value} (h : Below w.heap.size w w') (hc : w.cell? p = some v) (hp : p.block < w.heap.size) : w'.cell? p = some v := by rw [h.cell hp]; exact hc

def DrawnSaid (w : World) (e : Ending) (w' : World) : Prop :=
  ∃ (a : Option Addr) (cap : Nat) (p : List I4), e = .returned (.slice a p.length cap) ∧ progOk p = true ∧ OwnP w.heap.size w' (.slice a p.length cap) p.length (flat p) ∧ Below w.heap.size w w'

theorem drawQuiet_any (w : World) (a : Option Addr) (len cap : Nat) (hl : len ≤ maxLen) (hb : Bytes w.heap.size w a len) : Calls Tryd.prog 9 #[.slice a len cap] w (DrawnSaid w) := by
  have h1 := Lib.hid (new_any w a len cap hl hb)
  clear hl hb
  go_enter Tryd.func9, Tryd.ntmps9
  go_wp2_with fail
  refine h1.out.mono ?_
  rintro e w1 ⟨B, rfl, hc, b1⟩
  go_wp2_with fail
  refine (quiet_any w.heap.size B w w1 hc b1).mono ?_
  rintro e w2 ⟨v, n, p, rfl, q⟩
  obtain ⟨a2, cap2, rfl⟩ := OwnP.form q.own
  go_wp2_with fail
  go_ret
  have hlen := q.len
  subst hlen
  refine ⟨a2, cap2, p, rfl, ?_, OwnP.base q.own (by have := q.base.2.2; omega), q.bel⟩
  unfold progOk
  rw [List.all_eq_true]
  exact q.ok

set_option maxRecDepth 100000 in
set_option maxHeartbeats 2000000 in
theorem fnListings_walk (a : Option Addr) (len cap : Nat) (zs : List Int) (w : World) (hr : IsRow .u8 w a len cap zs) (hN : NamesIs w) (hv : NumVars w) :
    Calls Tryd.prog 3 #[.slice a len cap] w fun e w' => e = .returned (.bool true) ∧ Below w.heap.size w w' := by
  have hl := hr.bytes.2
  have HBy := Lib.hid hr.bytes.1
  have HL := Lib.hid hl
  have HN := Lib.hid hN
  have HV := Lib.hid hv
  clear hr hN hv
  by_cases hbig : 1048576 < len
  · have HD := Lib.hid (show decide (1048576 < (len : Int)) = true by simp; omega)
    clear hl hbig
    go_enter Tryd.func3, Tryd.ntmps3
    go_wp2_with fail
    refine (big_any _ a len cap).mono ?_
    rw [HD.out]
    rintro e w' ⟨rfl, rfl⟩
    go_wp2_with fail
    go_ret
    exact ⟨rfl, Below.refl _ _⟩
  · have HD := Lib.hid (show decide (1048576 < (len : Int)) = false by simp; omega)
    clear hl hbig
    go_enter Tryd.func3, Tryd.ntmps3
    go_wp2_with fail
    refine (big_any _ a len cap).mono ?_
    rw [HD.out]
    rintro e w' ⟨rfl, rfl⟩
    go_wp2_with fail
    refine (drawQuiet_any _ a len cap HL.out HBy.out).mono ?_
    rintro e w1 ⟨ap, cp, p, rfl, hok, o1, b1⟩
    have HR := Lib.hid (ok_small_rng hok)
    have h32 := progOk_len hok
    have hlen := fmtP_len hok
    have HAG := Lib.hid (prog_again hok)
    have HAT := Lib.hid (fmtP_at hok)
    have HIO : Hid (∀ i ∈ p, insOk i.o i.a i.b i.c 32 = true) := by
      unfold progOk at hok
      rw [List.all_eq_true] at hok
      exact fun i hi => ok_32 (hok i hi) h32
    have P1 := Lib.hid (OwnP.nums o1 HR.out (Nat.le_refl _))
    have B1 := Lib.hid b1
    have s1 := b1.size
    have h2 := pFmtProg_any w1 ap p cp (by omega) P1.out (HN.out.below b1 (Nat.le_refl _)) (HV.out.pow.below b1 (Nat.le_refl _))
    unfold FmtProgSaid at h2
    rw [hok] at h2
    have H2 := Lib.hid h2
    clear h2 o1 b1 hok
    generalize fmtP p = xs at *
    have hle1 : xs.length ≤ p.length := by omega
    have hle2 : p.length ≤ xs.length := by omega
    have HLEN := Lib.hid hlen
    clear hlen
    go_wp2_with fail
    refine H2.out.mono ?_
    rintro e w2 ⟨vl, rfl, t2, b2⟩
    obtain ⟨al, cl, rfl⟩ := t2.form
    have P2 := Lib.hid (P1.out.kept b2)
    have B2 := Lib.hid (B1.out.trans (b2.mono s1))
    have s2 := b2.size
    have T2 := Lib.hid t2.row
    have h3 := pParProg_any w2 al xs cl (by omega) T2.out (HV.out.below B2.out (Nat.le_refl _))
    unfold ParProgSaid at h3
    rw [HAG.out] at h3
    simp only [Option.isSome_some, Option.getD_some] at h3
    have H3 := Lib.hid h3
    clear h3 t2 b2 H2
    go_wp2_with fail
    refine H3.out.mono ?_
    rintro e w3 ⟨vq, rfl, o3, b3⟩
    obtain ⟨aq, cq, rfl⟩ := OwnP.form o3
    have P3 := Lib.hid (P2.out.kept (b3.mono s2))
    have B3 := Lib.hid (B2.out.trans (b3.mono (by omega)))
    have s3 := b3.size
    have T3 := Lib.hid (T2.out.below b3)
    have Q3 := Lib.hid (OwnP.nums o3 HR.out (Nat.le_refl _))
    clear o3 b3 H3
    go_wp2_with fail
    go_loopw [8] (fun i wr => ∃ k : Nat, k ≤ p.length ∧ i = .int .i64 k ∧ Below w3.heap.size w3 wr) (fun i _ => p.length - (intOf i).toNat)
    case atStart => exact ⟨0, Nat.zero_le _, rfl, Below.refl _ _⟩
    case round =>
      obtain ⟨k, hk, rfl, hb⟩ := hrel
      have hsz := hb.size
      by_cases hlt : k < p.length
      · have hlt2 : k < xs.length := by omega
        obtain ⟨gl, ol, rfl, hgl, cl0⟩ := (T3.out.below hb) k hlt2
        obtain ⟨hp1, hp2, hp3⟩ := parse_ins (HIO.out _ (List.getElem_mem hlt))
        have hat := HAT.out k hlt2 hlt
        rw [← hat] at hp2 hp3
        have h4 := fun W hn => pParse_any (⟨#[32, 32]⟩ ++ xs[k] ++ ⟨#[32]⟩) W hn
        rw [show parseL (⟨#[32, 32]⟩ ++ xs[k] ++ ⟨#[32]⟩) = some p[k] from hp2] at h4
        simp only [parV, insV] at h4
        have H4 := Lib.hid h4
        have h5 := fun W hN hp => pFmt_any p[k].o p[k].a p[k].b p[k].c W hN hp
        rw [show insText p[k].o p[k].a p[k].b p[k].c = xs[k] from hat.symm] at h5
        have H5 := Lib.hid h5
        clear h4 h5 hp1 hp2 hat
        have hgp0 : w1.heap.size ≤ w3.heap.size := by omega
        have BW := Lib.hid (B3.out.trans (hb.mono (by omega)))
        obtain ⟨gp, op, rfl, hgp, cp0, cp1, cp2, cp3⟩ := (P3.out.kept (hb.mono (by omega))).at4 k hlt
        generalize p[k] = x at *
        generalize xs[k] = t at *
        have k0 : (0 : Int) ≤ (k : Int) := Int.natCast_nonneg _
        have k1 : (k : Int) < (p.length : Int) := by omega
        have k2 : (k : Int) < (xs.length : Int) := by omega
        have hdg : decide ((p.length : Int) ≤ (k : Int)) = false := by simp; omega
        have hdg2 : decide (p.length ≤ k) = false := by simp; omega
        have hst : (t.toList == t.toList) = true := beq_self_eq_true _
        have z1 : (⟨#[32, 32]⟩ : ByteArray).size = 2 := rfl
        have z2 : (⟨#[32]⟩ : ByteArray).size = 1 := rfl
        have z3 : (⟨#[32, 32]⟩ ++ t : ByteArray).size ≤ 126 := by rw [ByteArray.size_append]; omega
        go_wp2_with fail
        refine (H4.out _ (HV.out.below BW.out (Nat.le_refl _))).mono ?_
        rintro e w4 ⟨rfl, b4⟩
        have b5 := b4.alloc b4.size (.cells (insC x.o x.a x.b x.c) 32)
        have i5 := (Blk.new w4 (insC x.o x.a x.b x.c) _ rfl).cell
        have hs4 := b4.size
        have BX := Lib.hid (BW.out.trans (b5.mono BW.out.size))
        have NX := Lib.hid (HN.out.below BX.out (Nat.le_refl _))
        have PX := Lib.hid (HV.out.pow.below BX.out (Nat.le_refl _))
        have HB5 := Lib.hid (hb.trans (b5.mono hsz))
        have hgpl : gp < wr.heap.size := by omega
        have d0 := cell_below b5 cp0 hgpl
        have d1 := cell_below b5 cp1 hgpl
        have d2 := cell_below b5 cp2 hgpl
        have d3 := cell_below b5 cp3 hgpl
        have dl := cell_below b5 cl0 hgl
        have e0 : (w4.alloc (.cells (insC x.o x.a x.b x.c) 32)).cell? ⟨w4.heap.size, 0, none⟩ = some (.int .i64 x.o) := i5 0
        have e1 : (w4.alloc (.cells (insC x.o x.a x.b x.c) 32)).cell? ⟨w4.heap.size, 1, none⟩ = some (.int .i64 x.a) := i5 1
        have e2 : (w4.alloc (.cells (insC x.o x.a x.b x.c) 32)).cell? ⟨w4.heap.size, 2, none⟩ = some (.int .i64 x.b) := i5 2
        have e3 : (w4.alloc (.cells (insC x.o x.a x.b x.c) 32)).cell? ⟨w4.heap.size, 3, none⟩ = some (.int .i64 x.c) := i5 3
        clear b4 b5 i5 cp0 cp1 cp2 cp3 cl0
        go_wp2_with fail
        go_region_held3 (fun w' => w'.cell? ⟨gl, ol + k, none⟩ = some (.string t) ∧ (w'.cell? ⟨gp, op + k * 4, none⟩ = some (.int .i64 x.o) ∧ w'.cell? ⟨gp, op + k * 4 + 1, none⟩ = some (.int .i64 x.a) ∧ w'.cell? ⟨gp, op + k * 4 + 2, none⟩ = some (.int .i64 x.b) ∧ w'.cell? ⟨gp, op + k * 4 + 3, none⟩ = some (.int .i64 x.c)) ∧ w'.cell? ⟨w4.heap.size, 0, none⟩ = some (.int .i64 x.o) ∧ w'.cell? ⟨w4.heap.size, 1, none⟩ = some (.int .i64 x.a) ∧ w'.cell? ⟨w4.heap.size, 2, none⟩ = some (.int .i64 x.b) ∧ w'.cell? ⟨w4.heap.size, 3, none⟩ = some (.int .i64 x.c)) (first | exact ⟨dl, ⟨d0, d1, d2, d3⟩, e0, e1, e2, e3⟩ | (refine ⟨?_, ⟨?_, ?_, ?_, ?_⟩, ?_, ?_, ?_, ?_⟩ <;> first | assumption | go_keep) | (refine ⟨?_, ⟨?_, ?_, ?_, ?_⟩, ?_, ?_, ?_, ?_⟩ <;> (rw [hb1.cell (by simp <;> omega)] <;> assumption))) ((first | (go_at_call 13; refine (H5.out _ ?_ ?_).mono ?_; exact NX.out; exact PX.out; rintro e w6 ⟨rfl, hb1⟩)))
        have hb6 : Below (w4.alloc (.cells (insC x.o x.a x.b x.c) 32)).heap.size (w4.alloc (.cells (insC x.o x.a x.b x.c) 32)) w6 := ⟨hb1.os, hb1.tape, hb1.output, hb1.size, hb1.block⟩
        have HB6 := Lib.hid (HB5.out.trans (hb6.mono HB5.out.size))
        clear hb1 hb6
        go_wp2_with fail
        go_roundw
        case rel => exact ⟨k + 1, hlt, by go_num, HB6.out⟩
        case measure => simp [intOf]; omega
      · obtain rfl : k = p.length := by omega
        have hsame : sameB p p = true := by unfold sameB; simp
        have h6 := pSame_any wr.heap.size wr.heap.size wr ap aq p p cp cq (by omega) ((P3.out.kept (hb.mono (by omega))).more (by omega)) ((Q3.out.kept hb).more hsz)
        rw [hsame] at h6
        have H6 := Lib.hid h6
        have BW := Lib.hid (B3.out.trans (hb.mono (by omega)))
        have hll : ((xs.length : Int) == (p.length : Int)) = true := by rw [HLEN.out]; exact beq_self_eq_true _
        clear h6 hsame
        go_wp2_with fail
        refine H6.out.mono ?_
        rintro e w4 ⟨rfl, b4⟩
        go_wp2_with fail
        go_ret
        exact ⟨rfl, BW.out.trans (b4.mono BW.out.size)⟩

end Go.Proofs.YtceicbncnhmkoaaDoor
