/- Lanes: the program's regsAfter and pcAfter of any valid instruction. -/
import Derived.Test.YtmiopbpahkgmbaaLaneB
namespace Go.Proofs.Ytmiopbpahkgmbaa
open Go.RowKit Go

set_option maxRecDepth 100000 in
set_option maxHeartbeats 2000000 in
theorem pRegsNo_any (B : Nat) (w : World) (t pc o a b c : Int) (rs : List Int) (g off cap : Nat) (hl : rs.length = 4) (ho : o < 1 ∨ 9 < o) (h : Nums B w (some ⟨g, off, none⟩) rs) (hB : B ≤ w.heap.size) :
    Calls Try.prog 55 #[.agg #[.int .i64 t, .int .i64 pc, .slice (some ⟨g, off, none⟩) 4 cap], .agg #[.int .i64 o, .int .i64 a, .int .i64 b, .int .i64 c]] w (RowSaid rs w) := by
  have hb0 := below2 w (.cells #[.int .i64 t, .int .i64 pc, .slice (some ⟨g, off, none⟩) 4 cap] 27) (.cells #[.int .i64 o, .int .i64 a, .int .i64 b, .int .i64 c] 33)
  have HCL := pClone_any B _ (some ⟨g, off, none⟩) rs cap (by omega) (h.kept (hb0.mono hB))
  rw [hl] at HCL
  replace HCL := Lib.hid HCL
  have HRA := Lib.hid (fun (w2 : World) (v : Value) => @laid B w w2 t pc o a b c rs g off cap v hl h hB)
  clear h hb0
  by_cases h1 : 1 ≤ o
  · have h9 : ¬ o ≤ 9 := by omega
    go_enter Try.func55, Try.ntmps55
    go_wp2_with fail
    refine HCL.out.mono ?_
    rintro e w2 ⟨v, rfl, o2, b2⟩
    obtain ⟨gO, cO, rfl, hO, hC⟩ := HRA.out w2 v o2 b2
    have HO := Lib.hid hO
    have HC := Lib.hid hC
    have i0 := hC.ins.cell 0
    simp at i0
    clear HRA HCL o2 b2 hO hC
    go_wp2_with fail
    go_ret
    exact ⟨_, rfl, HO.out, HC.out.bel⟩
  · go_enter Try.func55, Try.ntmps55
    go_wp2_with fail
    refine HCL.out.mono ?_
    rintro e w2 ⟨v, rfl, o2, b2⟩
    obtain ⟨gO, cO, rfl, hO, hC⟩ := HRA.out w2 v o2 b2
    have HO := Lib.hid hO
    have HC := Lib.hid hC
    have i0 := hC.ins.cell 0
    simp at i0
    clear HRA HCL o2 b2 hO hC ho
    go_wp2_with fail
    go_ret
    exact ⟨_, rfl, HO.out, HC.out.bel⟩

theorem set_rg (rs : List Int) (a : Nat) (ha : a < rs.length) : rs.set a (rg rs a) = rs := by
  unfold rg
  rw [Int.toNat_natCast, List.getD_eq_getElem?_getD, List.getElem?_eq_getElem ha]
  simp

/-- regsAfter of a valid instruction. -/
theorem pRegs_any (B : Nat) (w : World) (x : I4) (s t pc : Int) (rs : List Int) (ra : Option Addr) (cap : Nat) (hx : insOk x.o x.a x.b x.c s = true) (hl : rs.length = 4) (h : Nums B w ra rs) (hB : B ≤ w.heap.size) :
    Calls Try.prog 55 #[.agg #[.int .i64 t, .int .i64 pc, .slice ra 4 cap], .agg #[.int .i64 x.o, .int .i64 x.a, .int .i64 x.b, .int .i64 x.c]] w (RowSaid (applyR x t rs) w) := by
  obtain ⟨o, a, b, c⟩ := x
  obtain ⟨fa, _, _, fb, fc⟩ := ok_fields hx
  simp only at fa fb fc ⊢
  obtain ⟨g, off, rfl, _, _⟩ := h.2 0 (by omega)
  have key : ∀ k : Int, 0 ≤ k ∧ k ≤ 3 → ∃ n : Nat, k = n ∧ n < 4 := fun k hk => ⟨k.toNat, by omega, by omega⟩
  unfold applyR valR
  simp only
  by_cases h1 : o = 1
  · subst h1
    obtain ⟨a, rfl, ha⟩ := key a (fa (by omega) (by omega))
    rw [if_pos rfl]
    exact pRegs1_any B w t pc a b c rs g off cap hl ha h hB
  rw [if_neg h1]
  by_cases h2 : o = 2
  · subst h2
    obtain ⟨a, rfl, ha⟩ := key a (fa (by omega) (by omega))
    obtain ⟨b, rfl, hb⟩ := key b (fb (by omega) (by omega))
    rw [if_pos rfl]
    exact pRegs2_any B w t pc a b c rs g off cap hl ha hb h hB
  rw [if_neg h2]
  by_cases h3 : o = 3
  · subst h3
    obtain ⟨a, rfl, ha⟩ := key a (fa (by omega) (by omega))
    obtain ⟨b, rfl, hb⟩ := key b (fb (by omega) (by omega))
    obtain ⟨c, rfl, hc⟩ := key c (fc (by omega) (by omega))
    rw [if_pos rfl]
    exact pRegs3_any B w t pc a b c rs g off cap hl ha hb hc h hB
  rw [if_neg h3]
  by_cases h4 : o = 4
  · subst h4
    obtain ⟨a, rfl, ha⟩ := key a (fa (by omega) (by omega))
    obtain ⟨b, rfl, hb⟩ := key b (fb (by omega) (by omega))
    obtain ⟨c, rfl, hc⟩ := key c (fc (by omega) (by omega))
    rw [if_pos rfl]
    exact pRegs4_any B w t pc a b c rs g off cap hl ha hb hc h hB
  rw [if_neg h4]
  by_cases h5 : o = 5
  · subst h5
    obtain ⟨a, rfl, ha⟩ := key a (fa (by omega) (by omega))
    obtain ⟨b, rfl, hb⟩ := key b (fb (by omega) (by omega))
    obtain ⟨c, rfl, hc⟩ := key c (fc (by omega) (by omega))
    rw [if_pos rfl]
    exact pRegs5_any B w t pc a b c rs g off cap hl ha hb hc h hB
  rw [if_neg h5]
  by_cases h6 : o = 6
  · subst h6
    obtain ⟨a, rfl, ha⟩ := key a (fa (by omega) (by omega))
    obtain ⟨b, rfl, hb⟩ := key b (fb (by omega) (by omega))
    obtain ⟨c, rfl, hc⟩ := key c (fc (by omega) (by omega))
    rw [if_pos rfl]
    exact pRegs6_any B w t pc a b c rs g off cap hl ha hb hc h hB
  rw [if_neg h6]
  by_cases h7 : o = 7
  · subst h7
    obtain ⟨a, rfl, ha⟩ := key a (fa (by omega) (by omega))
    obtain ⟨b, rfl, hb⟩ := key b (fb (by omega) (by omega))
    obtain ⟨c, rfl, hc⟩ := key c (fc (by omega) (by omega))
    rw [if_pos rfl]
    exact pRegs7_any B w t pc a b c rs g off cap hl ha hb hc h hB
  rw [if_neg h7]
  by_cases h8 : o = 8
  · subst h8
    obtain ⟨a, rfl, ha⟩ := key a (fa (by omega) (by omega))
    rw [if_pos rfl]
    exact pRegs8_any B w t pc a b c rs g off cap hl ha h hB
  rw [if_neg h8]
  by_cases h9 : o = 9
  · subst h9
    obtain ⟨a, rfl, ha⟩ := key a (fa (by omega) (by omega))
    obtain ⟨b, rfl, hb⟩ := key b (fb (by omega) (by omega))
    obtain ⟨c, rfl, hc⟩ := key c (fc (by omega) (by omega))
    rw [if_pos rfl]
    by_cases hz : rg rs c = 0
    · rw [if_pos hz]
      have := pRegs9no_any B w t pc a b c rs g off cap hl ha hb hc hz h hB
      rwa [set_rg rs a (by omega)] at this
    · rw [if_neg hz]
      exact pRegs9yes_any B w t pc a b c rs g off cap hl ha hb hc hz h hB
  rw [if_neg h9]
  exact pRegsNo_any B w t pc o a b c rs g off cap hl (by omega) h hB

set_option maxRecDepth 100000 in
set_option maxHeartbeats 1000000 in
theorem pPcAfter_any (w : World) (t : Int) (k : Nat) (x : I4) (s : Int) (hx : insOk x.o x.a x.b x.c s = true) (p : List I4) (hk : k ≤ 10000000) (rs : List Int) (hl : rs.length = 4) (B : Nat) (ra : Option Addr) (cap : Nat) (h2 : Nums B w ra rs) (hB : B ≤ w.heap.size) :
    Calls Try.prog 89 #[.agg #[.int .i64 t, .int .i64 k, .slice ra 4 cap], .agg #[.int .i64 x.o, .int .i64 x.a, .int .i64 x.b, .int .i64 x.c], .int .i64 p.length] w (Said (.int .i64 (nextR p k x rs)) w) := by
  have e : nextR p k x rs = if x.o = 12 then (p.length : Int) else if x.o = 11 then x.b else if x.o = 10 ∧ rg rs x.a = 0 then x.b else (k : Int) + 1 := rfl
  rw [e]
  clear e
  obtain ⟨o, xa, b, c⟩ := x
  obtain ⟨_, fa, _, _, _⟩ := ok_fields hx
  simp only at fa ⊢
  by_cases h12 : o = 12
  · rw [if_pos h12]
    subst h12
    clear fa hx h2
    go_enter Try.func89, Try.ntmps89
    go_wp2_with fail
    go_ret
    exact ⟨rfl, below2 _ _ _⟩
  rw [if_neg h12]
  by_cases h11 : o = 11
  · rw [if_pos h11]
    subst h11
    clear fa hx h2
    go_enter Try.func89, Try.ntmps89
    go_wp2_with fail
    go_ret
    exact ⟨rfl, below2 _ _ _⟩
  rw [if_neg h11]
  by_cases h10 : o = 10
  · subst h10
    obtain ⟨ha0, ha3⟩ := fa rfl
    obtain ⟨xa, rfl⟩ := Int.eq_ofNat_of_zero_le ha0
    obtain ⟨g2, off2, rfl, hg2, cr⟩ := h2.2 xa (by omega)
    have er : rg rs (xa : Int) = rs[xa]'(by omega) := by unfold rg; rw [Int.toNat_natCast, List.getD_eq_getElem?_getD, List.getElem?_eq_getElem (by omega)]; rfl
    rw [← er] at cr
    have xa4 : (xa : Int) < 4 := by omega
    have hgw : g2 < w.heap.size := by omega
    clear h2 hx fa er
    by_cases hz : rg rs (xa : Int) = 0
    · rw [if_pos ⟨rfl, hz⟩]
      rw [hz] at cr
      clear hz
      go_enter Try.func89, Try.ntmps89
      go_wp2_with fail
      go_ret
      exact ⟨rfl, below2 _ _ _⟩
    · rw [if_neg (fun e => hz e.2)]
      have hz0 : (rg rs (xa : Int) == 0) = false := by simpa using hz
      generalize rg rs (xa : Int) = z at *
      clear hz
      go_enter Try.func89, Try.ntmps89
      go_wp2_with fail
      go_ret
      exact ⟨rfl, below2 _ _ _⟩
  · rw [if_neg (fun e => h10 e.1)]
    have e12 : (o == 12) = false := by simpa using h12
    have e11 : (o == 11) = false := by simpa using h11
    have e10 : (o == 10) = false := by simpa using h10
    clear h12 h11 h10 fa hx h2
    go_enter Try.func89, Try.ntmps89
    go_wp2_with fail
    go_ret
    exact ⟨rfl, below2 _ _ _⟩

end Go.Proofs.Ytmiopbpahkgmbaa
