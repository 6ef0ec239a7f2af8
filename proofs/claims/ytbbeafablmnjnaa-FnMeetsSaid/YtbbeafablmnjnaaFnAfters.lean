/- FnAfters: what is after a node is after every node from which all ways lead there first, and what comes first is after the node. -/
import Derived.Test.YtbbeafablmnjnaaAfterM
import Derived.Test.YtbbeafablmnjnaaFnReach
namespace Go.Proofs.Ytbbeafablmnjnaa
open Go.RowKit Go

/-- What the program's functions answer, for one program. -/
structure AfterSays (p : List I4) (R : List Int → Nat → Bool) (RA : List Int → Int → Nat → Bool) : Prop where
  is : ∀ (B : Nat) (w : World) (a : Option Addr) (cap : Nat) (k c : Int), p.length ≤ 10000000 → Nums B w a (flat p) → B ≤ w.heap.size → Calls Try.prog 16 #[.slice a p.length cap, .int .i64 k, .int .i64 c] w (Said (.bool (afterQ p R RA k c)) w)
  all : ∀ (B : Nat) (w : World) (a : Option Addr) (cap : Nat) (k : Int), p.length ≤ 10000000 → Nums B w a (flat p) → B ≤ w.heap.size → Calls Try.prog 12 #[.slice a p.length cap, .int .i64 k] w (RowSaid (aftersQ p R RA k) w)
  first : ∀ (B : Nat) (w : World) (a : Option Addr) (cap : Nat) (k : Int), p.length ≤ 10000000 → Nums B w a (flat p) → B ≤ w.heap.size → Calls Try.prog 13 #[.slice a p.length cap, .int .i64 k] w (Said (.int .i64 (firstQ p R RA k)) w)

theorem afters_exit {p : List I4} {c : Nat} (h : After p p.length c) : c = p.length := by
  refine Classical.byContradiction fun hne => ?_
  exact h (ReachA.start (by simp) (by omega))

set_option maxRecDepth 100000 in
set_option maxHeartbeats 4000000 in
theorem fnAfters_walk (hC : ∀ p R RA, AllReach p R → AllAvoid p RA → AfterSays p R RA) (a : Option Addr) (len cap : Nat) (zs : List Int) (w : World) (hr : IsRow .u8 w a len cap zs) :
    Calls Try.prog 3 #[.slice a len cap] w fun e w' => e = .returned (.bool true) ∧ Below w.heap.size w w' := by
  have hl := hr.bytes.2
  have HBy := Lib.hid hr.bytes.1
  have HL := Lib.hid hl
  have HCC := Lib.hid hC
  clear hr hC
  by_cases hbig : 1048576 < len
  · have HD := Lib.hid (show decide (1048576 < (len : Int)) = true by simp; omega)
    clear hl hbig
    go_enter Try.func3, Try.ntmps3
    go_wp2_with fail
    refine (big_any _ _ _ _).mono ?_
    rw [HD.out]
    rintro e w' ⟨rfl, rfl⟩
    go_wp2_with fail
    go_ret
    exact ⟨rfl, Below.refl _ _⟩
  · have HD := Lib.hid (show decide (1048576 < (len : Int)) = false by simp; omega)
    clear hl hbig
    go_enter Try.func3, Try.ntmps3
    go_wp2_with fail
    refine (big_any _ _ _ _).mono ?_
    rw [HD.out]
    rintro e w' ⟨rfl, rfl⟩
    go_wp2_with fail
    refine (drawWild_any _ _ _ _ HL.out HBy.out).mono ?_
    rintro e w1 ⟨a1, c1, p, rfl, hp, hp8, o1, b1⟩
    have s1 := b1.size
    have HN1 := Lib.hid (o1.nums (progOk_rng hp) (Nat.le_refl _))
    have HB1 := Lib.hid b1
    have HP := Lib.hid hp
    have HBy1 := Lib.hid (bytes_below HBy.out b1)
    obtain ⟨R, hR⟩ := exists_all p
    obtain ⟨RA, hRA⟩ := exists_avoid p
    have HC := Lib.hid (HCC.out p R RA hR hRA)
    have HR := Lib.hid hR
    have HRA := Lib.hid hRA
    clear o1 b1 hR hRA hp
    go_wp2_with fail
    refine (places_any _ _ _ _ HL.out HBy1.out).mono ?_
    rintro e w2 ⟨v2, xs, hxl, hxp, rfl, o2, b2⟩
    have s2 := b2.size
    have HN2 := Lib.hid (HN1.out.kept b2)
    have HB2 := Lib.hid (HB1.out.trans (b2.mono s1))
    have h0 : 0 < xs.length := by omega
    obtain ⟨a2, c2, rfl⟩ := o2.form
    obtain ⟨g2, rfl, _, _, hc2⟩ := o2.cell 0 h0
    have hx0 := hxp _ (List.getElem_mem h0)
    generalize xs[0] = x0 at *
    obtain ⟨ad, hmod, had⟩ := place_mod hx0.1 (show (0 : Int) < (p.length : Int) + 1 by omega)
    obtain ⟨hx0a, hx0b⟩ := hx0
    have hne : ((p.length : Int) + 1 == 0) = false := by simp; omega
    clear o2 b2 hxp
    have hadn : ad ≤ p.length := by omega
    go_wp2_with fail
    refine (HC.out.all w1.heap.size w2 a1 c1 ad (by omega) HN2.out s2).mono ?_
    rintro e w3 ⟨v3, rfl, o3, b3⟩
    have s3 := b3.size
    obtain ⟨hrx, hrl⟩ := aftersQ_rng (p := p) (R := R) (RA := RA) (a := (ad : Int))
    have HMEM := Lib.hid (fun (hx : exitQ p R ad = true) (x : Int) => afters_mem HRA.out hx (x := x))
    have HNONE := Lib.hid (fun (hx : exitQ p R ad = false) => afters_none (p := p) (R := R) (RA := RA) hx)
    have HRX := Lib.hid hrx
    generalize aftersQ p R RA (ad : Int) = rs at *
    obtain ⟨a3, c3, rfl⟩ := o3.form
    have HN3 := Lib.hid (HN2.out.kept (b3.mono s2))
    have HO3 := Lib.hid (o3.readA (rng_small (by omega) HRX.out))
    have HB3 := Lib.hid (HB2.out.trans (b3.mono (by omega)))
    clear o3 b3 hrx
    go_wp2_with fail
    refine (HC.out.first w1.heap.size w3 a1 c1 ad (by omega) HN3.out (by omega)).mono ?_
    rintro e w4 ⟨rfl, b4⟩
    have s4 := b4.size
    have HN4 := Lib.hid (HN3.out.kept (b4.mono (by omega)))
    have HO4 := Lib.hid (HO3.out.kept b4)
    have HB4 := Lib.hid (HB3.out.trans (b4.mono (by omega)))
    clear b4
    have hex := pReachesExit_any w1.heap.size w4 a1 p R HR.out c1 ad (by omega) HN4.out (by omega)
    cases hx : exitQ p R ad with
    | false =>
      rw [hx] at hex
      have hnil := HNONE.out hx
      have HFN := Lib.hid (first_none (p := p) (R := R) (RA := RA) hx)
      have hlen : (rs.length : Int) = 0 := by rw [hnil]; rfl
      rw [HFN.out]
      replace hex := Lib.hid hex
      clear hx hnil
      go_wp2_with fail
      refine hex.out.mono ?_
      rintro e w5 ⟨rfl, b5⟩
      have HB5 := Lib.hid (HB4.out.trans (b5.mono (by omega)))
      clear b5
      go_wp2_with fail
      go_ret
      exact ⟨rfl, HB5.out⟩
    | true =>
      rw [hx] at hex
      replace hex := Lib.hid hex
      have hmem := HMEM.out hx
      have HHA := Lib.hid (show inL rs (ad : Int) = true by unfold inL; rw [List.contains_iff_mem, hmem]; exact ⟨ad, hadn, rfl, After.self p ad⟩)
      have HHN := Lib.hid (show inL rs (p.length : Int) = true by unfold inL; rw [List.contains_iff_mem, hmem]; exact ⟨p.length, Nat.le_refl _, rfl, After.exit p ad⟩)
      have HIS := Lib.hid (fun x (hm : x ∈ rs) => (show ∃ c : Nat, x = c ∧ c ≤ p.length ∧ afterQ p R RA ad c = true ∧ After p ad c from by
        obtain ⟨c, h1, h2, h3⟩ := (hmem x).1 hm
        exact ⟨c, h2, h1, after_iff HRA.out hx h1 h3, h3⟩))
      by_cases hae : ad = p.length
      · have HFN := Lib.hid (first_exit HRA.out (show exitQ p R p.length = true by rw [← hae]; exact hx) : firstQ p R RA p.length = -1)
        have hfn : firstQ p R RA (ad : Int) = -1 := by rw [hae]; exact HFN.out
        have HLA := Lib.hid (fun (c : Nat) (h : After p ad c) => (show c = ad by rw [hae] at h ⊢; exact afters_exit h))
        have hane : ((ad : Int) == (p.length : Int)) = true := by rw [hae]; simp
        rw [hfn]
        clear hx hmem hfn hae
        go_wp2_with fail
        refine hex.out.mono ?_
        rintro e w5 ⟨rfl, b5⟩
        have s5 := b5.size
        have HN5 := Lib.hid (HN4.out.kept (b5.mono (by omega)))
        have HO5 := Lib.hid (HO4.out.kept (b5.mono s4))
        have HB5 := Lib.hid (HB4.out.trans (b5.mono (by omega)))
        clear b5
        go_wp2_with fail
        refine (has_any w3.heap.size w5 a3 rs c3 ad (by omega) HO5.out).mono ?_
        rw [HHA.out]
        rintro e w' ⟨rfl, rfl⟩
        go_wp2_with fail
        refine (has_any w3.heap.size w5 a3 rs c3 p.length (by omega) HO5.out).mono ?_
        rw [HHN.out]
        rintro e w' ⟨rfl, rfl⟩
        go_wp2_with fail
        go_loopw [8] (fun i wr => ∃ k : Nat, k ≤ rs.length ∧ i = .int .i64 k ∧ Below w5.heap.size w5 wr) (fun i _ => rs.length - (intOf i).toNat)
        case atStart => exact ⟨0, Nat.zero_le _, rfl, Below.refl _ _⟩
        case round =>
          obtain ⟨k, hk, rfl, hb⟩ := hrel
          have sr := hb.size
          have HB := Lib.hid hb
          clear hb
          by_cases hlt : k < rs.length
          · obtain ⟨g, off, ha3, hg, hc⟩ := (HO5.out.kept (HB.out.mono (by omega))).2 k hlt
            obtain ⟨c, ec, hcl, hq, haf2⟩ := HIS.out _ (List.getElem_mem hlt)
            rw [ec] at hc
            have HAF := Lib.hid haf2
            have hgl : g < wr.heap.size := by omega
            have h6 := HC.out.is w1.heap.size wr a1 c1 ad c (by omega) (HN5.out.kept (HB.out.mono (by omega))) (by omega)
            rw [hq] at h6
            replace h6 := Lib.hid h6
            subst ha3
            clear ec hq haf2
            go_wp2_with fail
            refine h6.out.mono ?_
            rintro e w6 ⟨rfl, b6⟩
            have s6 := b6.size
            have hc6 : w6.cell? ⟨g, off + k, none⟩ = some (.int .i64 (c : Int)) := by rw [b6.cell (p := ⟨g, off + k, none⟩) hgl]; exact hc
            have HB6 := Lib.hid (HB.out.trans (b6.mono sr))
            clear b6 hc
            have hca : ((c : Int) != (ad : Int)) = false := by rw [HLA.out c HAF.out]; simp
            go_wp2_with fail
            go_roundw
            case rel => exact ⟨k + 1, hlt, by go_num, HB6.out⟩
            case measure => simp [intOf]; omega
          · obtain rfl : k = rs.length := by omega
            have HBE := Lib.hid (HB5.out.trans (HB.out.mono (by omega)))
            go_wp2_with fail
            go_ret
            exact ⟨rfl, HBE.out⟩
      · obtain ⟨f, hfn, hfa, hfl, haf, hfc⟩ := first_some HR.out HRA.out hx hae
        have HLA := Lib.hid (fun (c : Nat) (hc : c ≤ p.length) (hca : c ≠ ad) (h : After p ad c) => after_first HR.out HRA.out hx hfl haf hc (hfc c hc hca h))
        have hane : ((ad : Int) == (p.length : Int)) = false := by simp; omega
        have hfm : ((f : Int) == -1) = false := by simp
        have hfad : ((f : Int) != (ad : Int)) = true := by simp; omega
        have HHF := Lib.hid (show inL rs (f : Int) = true by unfold inL; rw [List.contains_iff_mem, hmem]; exact ⟨f, hfl, rfl, haf⟩)
        have HFL := Lib.hid hfl
        rw [hfn]
        clear hfl haf hfc hfa
        clear hx hmem hfn hae
        go_wp2_with fail
        refine hex.out.mono ?_
        rintro e w5 ⟨rfl, b5⟩
        have s5 := b5.size
        have HN5 := Lib.hid (HN4.out.kept (b5.mono (by omega)))
        have HO5 := Lib.hid (HO4.out.kept (b5.mono s4))
        have HB5 := Lib.hid (HB4.out.trans (b5.mono (by omega)))
        clear b5
        go_wp2_with fail
        refine (has_any w3.heap.size w5 a3 rs c3 ad (by omega) HO5.out).mono ?_
        rw [HHA.out]
        rintro e w' ⟨rfl, rfl⟩
        go_wp2_with fail
        refine (has_any w3.heap.size w5 a3 rs c3 p.length (by omega) HO5.out).mono ?_
        rw [HHN.out]
        rintro e w' ⟨rfl, rfl⟩
        go_wp2_with fail
        go_loopw [8] (fun i wr => ∃ k : Nat, k ≤ rs.length ∧ i = .int .i64 k ∧ Below w5.heap.size w5 wr) (fun i _ => rs.length - (intOf i).toNat)
        case atStart => exact ⟨0, Nat.zero_le _, rfl, Below.refl _ _⟩
        case round =>
          obtain ⟨k, hk, rfl, hb⟩ := hrel
          have sr := hb.size
          have HB := Lib.hid hb
          clear hb
          by_cases hlt : k < rs.length
          · obtain ⟨g, off, ha3, hg, hc⟩ := (HO5.out.kept (HB.out.mono (by omega))).2 k hlt
            obtain ⟨c, ec, hcl, hq, haf2⟩ := HIS.out _ (List.getElem_mem hlt)
            rw [ec] at hc
            have HAF := Lib.hid haf2
            have hgl : g < wr.heap.size := by omega
            have h6 := HC.out.is w1.heap.size wr a1 c1 ad c (by omega) (HN5.out.kept (HB.out.mono (by omega))) (by omega)
            rw [hq] at h6
            replace h6 := Lib.hid h6
            subst ha3
            clear ec hq haf2
            go_wp2_with fail
            refine h6.out.mono ?_
            rintro e w6 ⟨rfl, b6⟩
            have s6 := b6.size
            have hc6 : w6.cell? ⟨g, off + k, none⟩ = some (.int .i64 (c : Int)) := by rw [b6.cell (p := ⟨g, off + k, none⟩) hgl]; exact hc
            have HB6 := Lib.hid (HB.out.trans (b6.mono sr))
            clear b6 hc
            by_cases hcad : c = ad
            · have hca : ((c : Int) != (ad : Int)) = false := by simp; omega
              clear hcad
              go_wp2_with fail
              go_roundw
              case rel => exact ⟨k + 1, hlt, by go_num, HB6.out⟩
              case measure => simp [intOf]; omega
            · have hca : ((c : Int) != (ad : Int)) = true := by simp; omega
              have h7 := HC.out.is w1.heap.size w6 a1 c1 f c (by omega) (HN5.out.kept (HB6.out.mono (by omega))) (by omega)
              rw [HLA.out c hcl hcad HAF.out] at h7
              replace h7 := Lib.hid h7
              clear hcad
              go_wp2_with fail
              refine h7.out.mono ?_
              rintro e w7 ⟨rfl, b7⟩
              have HB7 := Lib.hid (HB6.out.trans (b7.mono (by omega)))
              clear b7
              go_wp2_with fail
              go_roundw
              case rel => exact ⟨k + 1, hlt, by go_num, HB7.out⟩
              case measure => simp [intOf]; omega
          · obtain rfl : k = rs.length := by omega
            have HBE := Lib.hid (HB5.out.trans (HB.out.mono (by omega)))
            have h8 := has_any w3.heap.size wr a3 rs c3 f (by omega) (HO5.out.kept (HB.out.mono (by omega)))
            rw [HHF.out] at h8
            replace h8 := Lib.hid h8
            go_wp2_with fail
            refine h8.out.mono ?_
            rintro e w' ⟨rfl, rfl⟩
            go_wp2_with fail
            go_ret
            exact ⟨rfl, HBE.out⟩

end Go.Proofs.Ytbbeafablmnjnaa
