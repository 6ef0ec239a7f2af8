/- FnApplied: an instruction changes only the register that it writes, and depends only on those that it reads. -/
import Derived.Test.YtmiopbpahkgmbaaDrawLane
import Derived.Test.YtmiopbpahkgmbaaApplied
import Derived.Test.YtmiopbpahkgmbaaFnLaneSteps
import Derived.Test.YtmiopbpahkgmbaaNumber
import Derived.Deep.RegionHeld3
import Derived.BigQuiet
import Derived.Test.YtmiopbpahkgmbaaTakes
namespace Go.Proofs.Ytmiopbpahkgmbaa
open Go.RowKit Go

theorem nums_at {B : Nat} {w : World} {a : Option Addr} {xs : List Int} (h : Nums B w a xs) (i : Nat) (hi : i < xs.length) : ∃ g off, a = some ⟨g, off, none⟩ ∧ g < B ∧ w.cell? ⟨g, off + i, none⟩ = some (.int .i64 (rg xs (i : Int))) := by
  obtain ⟨g, off, e, hg, hc⟩ := h.2 i hi
  exact ⟨g, off, e, hg, by rw [rg_nat hi]; exact hc⟩
theorem own_at {B : Nat} {w : World} {a : Option Addr} {n c : Nat} {xs : List Int} (h : Own B w (.slice a n c) xs) (h4 : xs.length = 4) : ∃ g, a = some ⟨g, 0, none⟩ ∧ B ≤ g ∧ g < w.heap.size ∧ ∀ i : Nat, i < 4 → w.cell? ⟨g, i, none⟩ = some (.int .i64 (rg xs (i : Int))) := by
  obtain ⟨g, e, h1, h2, _⟩ := h.cell 0 (by omega)
  refine ⟨g, e, h1, h2, fun i hi => ?_⟩
  obtain ⟨g', e', _, _, hc⟩ := h.cell i (by omega)
  rw [e] at e'
  cases e'
  rw [rg_nat (by omega)]
  exact hc
theorem place_word {xs : List Int} (h : ∀ x ∈ xs, placeP x) (i : Nat) (hi : i < xs.length) : isW (rg xs (i : Int)) = true := by
  rw [rg_nat hi]
  have := h _ (List.getElem_mem hi)
  unfold placeP at this
  exact isW_mk this.1 (by omega)
/-- A copy of the registers, made behind the world w. -/
theorem copy_own {w w2 : World} {v2 : Value} {rs : List Int} (hl : rs.length = 4) (hown : w2.ownsRow w.heap.size 3 1 v2 (0 + 4) ([] ++ rs.map (.int .i64))) (hg : (w.alloc (.cells #[] 3)).grownBy w2 (Value.slice (some ⟨w.heap.size, 0, none⟩) 0 0).ownBlock) :
    ∃ g c, v2 = .slice (some ⟨g, 0, none⟩) 4 c ∧ Own w.heap.size w2 (.slice (some ⟨g, 0, none⟩) 4 c) rs ∧ Below w.heap.size w w2 := by
  have ho : Own w.heap.size w2 v2 rs := by
    unfold Own
    rw [hl]
    rw [Nat.zero_add, List.nil_append] at hown
    exact hown
  obtain ⟨a, c, rfl⟩ := ho.form
  obtain ⟨g, rfl, _, _, _⟩ := ho.cell 0 (by omega)
  rw [hl] at ho ⊢
  exact ⟨g, c, rfl, ho, (below1 w _).grown hg (by simp) (fun k e => by simp [Value.ownBlock] at e; omega)⟩

/-- A row of four numbers that a call returned. -/
theorem row4 {W : World} {ys : List Int} (hy : ys.length = 4) (hr : ∀ x ∈ ys, i64R x) {e : Ending} {w' : World} (h : RowSaid ys W e w') : ∃ (g c : Nat), e = .returned (.slice (some ⟨g, 0, none⟩) 4 c) ∧ Nums w'.heap.size w' (some ⟨g, 0, none⟩) ys ∧ Below W.heap.size W w' := by
  obtain ⟨v, rfl, ho, hb⟩ := h
  obtain ⟨a, c, rfl⟩ := ho.form
  obtain ⟨g, rfl, _, _, _⟩ := ho.cell 0 (by omega)
  rw [hy] at ho ⊢
  exact ⟨g, c, rfl, ho.nums hr (Nat.le_refl _), hb⟩
theorem own_frozen {B : Nat} {w : World} {g c : Nat} {xs : List Int} (h : Own B w (.slice (some ⟨g, 0, none⟩) 4 c) xs) (h4 : xs.length = 4) (k : Nat) : w.frozen? ⟨g, k, none⟩ = false :=
  World.ownsRow.frozenAt (by have := h; unfold Own at this; rw [h4] at this; exact this) k

set_option maxRecDepth 100000 in
set_option maxHeartbeats 20000000 in
theorem fnApplied_any (a : Option Addr) (len cap : Nat) (zs : List Int) (w : World) (hr : IsRow .u8 w a len cap zs) :
    Calls Try.prog 3 #[.slice a len cap] w fun e w' => e = .returned (.bool true) ∧ Below w.heap.size w w' := by
  obtain ⟨i0, hi0, hz0, hz1, hz2⟩ := info_parts info_int
  have hl := hr.bytes.2
  have HBy := Lib.hid hr.bytes.1
  have HL := Lib.hid hl
  clear hr
  by_cases hbig : 1048576 < len
  · have HD := Lib.hid (show decide (1048576 < (len : Int)) = true by simp; omega)
    clear hl hbig
    go_enter Try.func3, Try.ntmps3
    go_wp2_with fail
    refine (big_any _ _ _ _).mono ?_
    rw [HD.out]
    rintro e w' ⟨rfl, rfl⟩
    go_wp2_with fail
    go_ret
    exact ⟨rfl, Below.refl _ _⟩
  · have HD := Lib.hid (show decide (1048576 < (len : Int)) = false by simp; omega)
    clear hl hbig
    go_enter Try.func3, Try.ntmps3
    go_wp2_with fail
    refine (big_any _ _ _ _).mono ?_
    rw [HD.out]
    rintro e w' ⟨rfl, rfl⟩
    go_wp2_with fail
    refine (drawLane_any _ _ _ _ HL.out HBy.out).mono ?_
    rintro e w1 ⟨a1, c1, p, t, pc, ra, rc, rs, rfl, ⟨hok, hr4, hp8, hloc⟩, o1, o2, b1⟩
    obtain ⟨hp, ht, _, _, hrw⟩ := laneOk_iff.1 hok
    have HP := Lib.hid hp
    have HRW := Lib.hid hrw
    have HLC := Lib.hid hloc
    have HN1 := Lib.hid (OwnP.nums o1 (progOk_rng hp) (Nat.le_refl _))
    have HR1 := Lib.hid (Own.nums o2 (words_rng hrw) (Nat.le_refl _))
    have HB1 := Lib.hid b1
    have s1 : w.heap.size ≤ w1.heap.size := b1.size
    obtain ⟨gr, og, rfl, hgr, _⟩ := HR1.out.2 0 (by omega)
    clear o1 o2 b1 hp hrw hok hloc
    go_upto_region 4 with fail
    obtain ⟨w2, hw2⟩ : ∃ w2, w2 = w1.alloc (.cells #[.int .i64 t, .int .i64 pc, .slice (some ⟨gr, og, none⟩) 4 rc] 27) := ⟨_, rfl⟩
    rw [← hw2]
    have hb2 : Below w1.heap.size w1 w2 := by rw [hw2]; exact below1 _ _
    have X2 := Lib.hid (show Box 27 w2 w1.heap.size #[.int .i64 t, .int .i64 pc, .slice (some ⟨gr, og, none⟩) 4 rc] by rw [hw2]; exact Box.new _ _ _)
    clear hw2
    have s2 : w1.heap.size < w2.heap.size := X2.out.lt
    have HB2 := Lib.hid (HB1.out.trans (hb2.mono s1))
    have HN2 := Lib.hid (HN1.out.kept hb2)
    have HR2 := Lib.hid (HR1.out.kept hb2)
    clear hb2
    go_wp2_with fail
    refine (places_any _ _ _ _ HL.out (bytes_kept HBy.out HB2.out)).mono ?_
    rintro e w3 ⟨v3, xs, hxl, hxp, rfl, o3, b3⟩
    have HXW := Lib.hid (fun (i : Nat) (hi : i < 4) => place_word hxp i (by omega))
    have hxr : ∀ x ∈ xs, i64R x := fun x hx => by have := hxp x hx; unfold placeP at this; unfold i64R; omega
    obtain ⟨ax, cx, rfl⟩ := Own.form o3
    have HX3 := Lib.hid (Own.nums o3 hxr (Nat.le_refl _))
    obtain ⟨gx, ox, rfl, hgx, _⟩ := HX3.out.2 0 (by omega)
    have s3 : w2.heap.size ≤ w3.heap.size := b3.size
    have HB3 := Lib.hid (HB2.out.trans (b3.mono (by omega)))
    have HN3 := Lib.hid (HN2.out.kept (b3.mono (by omega)))
    have HR3 := Lib.hid (HR2.out.kept (b3.mono (by omega)))
    have X3 := Lib.hid (X2.out.below b3)
    clear o3 b3 hxp hxr
    go_wp2_with fail
    go_loopw [6] (fun i wr => ∃ k : Nat, k ≤ p.length ∧ i = .int .i64 k ∧ Below w3.heap.size w3 wr) (fun i _ => p.length - (intOf i).toNat)
    case atStart => exact ⟨0, Nat.zero_le _, rfl, Below.refl _ _⟩
    case round =>
      obtain ⟨k, hk, rfl, hb⟩ := hrel
      have sr := hb.size
      have HB := Lib.hid hb
      clear hb
      by_cases hlt : k < p.length
      · have hxk := progOk_at HP.out hlt
        have hlk : locI p[k] = true := (List.all_eq_true.1 HLC.out) _ (List.getElem_mem hlt)
        obtain ⟨gp, op, rfl, hgp, d0, d1, d2, d3⟩ := (HN3.out.kept (HB.out.mono (by omega))).at4 k hlt
        have hgp2 : gp < w1.heap.size := by omega
        have hK := Lib.hid (fun (W : World) (hW : Below w3.heap.size w3 W) => (HN3.out.kept (hW.mono (by omega))).at4 k hlt)
        have HAP := fun (i : Nat) (h4 : i < 4) => applied (t := t) (xs := xs) hxk hlk hr4 i h4
        have hA1 : appR p[k] t rs = applyR p[k] t rs := app_valid (by omega) hxk ht hr4 HRW.out
        have hmw := mixL_words (r := ascOf (rawR p[k].o p[k].a p[k].b p[k].c)) (xs := xs) (j := 4) HRW.out HXW.out
        have hA2 : appR p[k] t (mixL (ascOf (rawR p[k].o p[k].a p[k].b p[k].c)) rs xs 4) = applyR p[k] t (mixL (ascOf (rawR p[k].o p[k].a p[k].b p[k].c)) rs xs 4) := app_valid (by omega) hxk ht (mixL_len _ _ _ _) hmw
        have hyl : (applyR p[k] t rs).length = 4 := by rw [applyR_len]; exact hr4
        have hql : (applyR p[k] t (mixL (ascOf (rawR p[k].o p[k].a p[k].b p[k].c)) rs xs 4)).length = 4 := by rw [applyR_len]; exact mixL_len _ _ _ _
        have hyw := applyR_words (x := p[k]) (t := t) hxk HRW.out ht
        have hqw := applyR_words (x := p[k]) (t := t) hxk hmw ht
        have HC1 := fun (W : World) (B : Nat) (N : Nums B W (some ⟨gr, og, none⟩) rs) (hs : B ≤ W.heap.size) => pApplyIns_any B W p[k] t (some ⟨gr, og, none⟩) rs rc (by omega) N hs
        have HC2 := fun (W : World) (B : Nat) (a : Option Addr) (c : Nat) (N : Nums B W a (mixL (ascOf (rawR p[k].o p[k].a p[k].b p[k].c)) rs xs 4)) (hs : B ≤ W.heap.size) => pApplyIns_any B W p[k] t a (mixL (ascOf (rawR p[k].o p[k].a p[k].b p[k].c)) rs xs 4) c (by rw [mixL_len]; omega) N hs
        rw [hA1, hr4] at HC1
        rw [hA2, mixL_len] at HC2
        have HWR := fun W => pWrites_any p[k].o p[k].a p[k].b p[k].c W
        have HRD := fun W => pReads_any p[k].o p[k].a p[k].b p[k].c W
        have hrr := raw_rng hxk hlk
        have hras : ∀ j ∈ ascOf (rawR p[k].o p[k].a p[k].b p[k].c), i64R j := fun j hj => by have := hrr j (((ascOf_asc _).2 j).1 hj); unfold i64R; omega
        have hral : (ascOf (rawR p[k].o p[k].a p[k].b p[k].c)).length ≤ 10 := by
          refine Nat.le_trans (ascOf_le _) ?_
          unfold rawR
          repeat' split
          all_goals simp
        generalize ascOf (rawR p[k].o p[k].a p[k].b p[k].c) = rr at *
        generalize wrt p[k].o p[k].a = wv at *
        generalize applyR p[k] t rs = ys at *
        obtain ⟨ms, hms⟩ : ∃ ms, ms = mixL rr rs xs 4 := ⟨_, rfl⟩
        rw [← hms] at HAP hmw hA2 hql hqw HC2
        generalize applyR p[k] t ms = qs at *
        have HMS := Lib.hid hms
        generalize p[k] = x at *
        obtain ⟨xo, xa, xb, xc⟩ := x
        simp only at d0 d1 d2 d3 HC1 HC2 HWR HRD
        replace HC1 := Lib.hid HC1
        replace HC2 := Lib.hid HC2
        replace HWR := Lib.hid HWR
        replace HRD := Lib.hid HRD
        replace HAP := Lib.hid HAP
        have HYW := Lib.hid hyw
        have HYR := Lib.hid (words_rng hyw)
        have HQR := Lib.hid (words_rng hqw)
        have HMR := Lib.hid (words_rng hmw)
        have HRA := Lib.hid hras
        have HXK := Lib.hid hxk
        clear hxk hlk hA1 hA2 hmw hyw hqw hrr hras hms
        have k0 : (0 : Int) ≤ (k : Int) := Int.natCast_nonneg _
        have k1 : (k : Int) < (p.length : Int) := by omega
        have HD4 := Lib.hid (fun (W : World) (hW : Below w3.heap.size w3 W) => (show W.cell? ⟨gp, op + k * 4, none⟩ = some (.int .i64 xo) ∧ W.cell? ⟨gp, op + k * 4 + 1, none⟩ = some (.int .i64 xa) ∧ W.cell? ⟨gp, op + k * 4 + 2, none⟩ = some (.int .i64 xb) ∧ W.cell? ⟨gp, op + k * 4 + 3, none⟩ = some (.int .i64 xc) from by
          obtain ⟨g', o', e', _, f0, f1, f2, f3⟩ := hK.out W hW
          cases e'
          exact ⟨f0, f1, f2, f3⟩))
        clear d0 d1 d2 d3 hK
        obtain ⟨d0, d1, d2, d3⟩ := HD4.out wr HB.out
        obtain ⟨⟨l0, l1, l2⟩, lf, ll⟩ := (X3.out.below HB.out).three
        clear lf
        have gpl : gp < wr.heap.size := by omega
        have hk1 : Kept wr wr := Below.refl _ _
        have hz := hk1.size
        have HC1w := Lib.hid (fun (W : World) (hW : Kept wr W) => (HC1.out W _ (HR3.out.kept ((HB.out.trans (Below.mono hW (by omega))).mono (by omega))) (by have := hW.size; omega)).mono (fun e w' h => row4 hyl HYR.out h))
        go_upto_region 8 with fail
        go_region_held3 (fun w' => (w'.cell? ⟨gp, op + k * 4, none⟩ = some (.int .i64 xo) ∧ w'.cell? ⟨gp, op + k * 4 + 1, none⟩ = some (.int .i64 xa) ∧ w'.cell? ⟨gp, op + k * 4 + 2, none⟩ = some (.int .i64 xb) ∧ w'.cell? ⟨gp, op + k * 4 + 3, none⟩ = some (.int .i64 xc)) ∧ w'.cell? ⟨w1.heap.size, 0, none⟩ = some (.int .i64 t) ∧ w'.cell? ⟨w1.heap.size, 1, none⟩ = some (.int .i64 pc) ∧ w'.cell? ⟨w1.heap.size, 2, none⟩ = some (.slice (some ⟨gr, og, none⟩) 4 rc)) (first | go_keep | ((repeat' apply And.intro) <;> (first | (rw [hb1.cell (by simp; omega)]; simp [*]) | go_keep))) ((first
          | (go_at_call 15; refine (HC1w.out _ (by first | with_reducible exact hk1 | with_reducible exact Kept.drew hk1)).mono ?_; rintro e u1 ⟨ga, ca, rfl, n1, hb1⟩; have HYA := Lib.hid n1; clear n1; replace hk1 : Kept wr u1 := (by first | with_reducible exact Kept.call hk1 hb1 | with_reducible exact Kept.call (Kept.drew hk1) hb1); have hz := hk1.size)))
        have HBa := Lib.hid (HB.out.trans (Below.mono hk1 (by omega)))
        have sa : wr.heap.size ≤ u1.heap.size := hk1.size
        clear HC1w HC1 d0 d1 d2 d3 l0 l1 l2 ll gpl hb1
        clear hk1
        obtain ⟨d0, d1, d2, d3⟩ := HD4.out u1 HBa.out
        have gpl : gp < u1.heap.size := by omega
        go_wp2_with fail
        refine (HWR.out _).mono ?_
        rintro e u2 ⟨rfl, b2⟩
        have sb : u1.heap.size ≤ u2.heap.size := b2.size
        have HBb := Lib.hid (HBa.out.trans (b2.mono (by omega)))
        have HYB := Lib.hid (HYA.out.kept b2)
        clear b2 d0 d1 d2 d3 gpl
        obtain ⟨d0, d1, d2, d3⟩ := HD4.out u2 HBb.out
        have gpl : gp < u2.heap.size := by omega
        go_wp2_with fail
        refine (HRD.out _).mono ?_
        rintro e u3 ⟨v3, rfl, o3, b3⟩
        obtain ⟨ar, cr, rfl⟩ := o3.form
        have HRN := Lib.hid (Own.nums o3 HRA.out (Nat.le_refl _))
        have sc : u2.heap.size ≤ u3.heap.size := b3.size
        have HBc := Lib.hid (HBb.out.trans (b3.mono (by omega)))
        have HYC := Lib.hid (HYB.out.kept (b3.mono (by omega)))
        clear o3 b3 d0 d1 d2 d3 gpl
        obtain ⟨⟨l0, l1, l2⟩, lf, ll⟩ := (X3.out.below HBc.out).three
        clear lf
        have HS := Lib.hid (nums_cells ((HR3.out.kept (HBc.out.mono (by omega))).kept ((below1 u3 (.cells #[] 3)).mono (by omega))))
        have HME := Lib.hid (made_empty (base := u3.heap.size) u3 u3.heap.size rfl (Nat.le_refl _))
        have HML := Lib.hid (show (rs.map (Value.int .i64)).length = 4 * 1 by simp [hr4])
        have HCO := Lib.hid (fun (w2 : World) (v2 : Value) => @copy_own u3 w2 v2 rs hr4)
        go_wp2_with (at_builtin; refine wpList_append_own_at _ rfl (.tmp 48) (.tmp 50) 25 rfl u3.heap.size 3 i0 (.int .i64 0) 1 8 Try.underlying25 hi0 hz0 hz1 hz2 rfl (by decide) _ 0 [] rfl HME.out ⟨gr, og, none⟩ 4 rc (rs.map (.int .i64)) rfl HML.out HS.out (by intro u hu; obtain ⟨x, _, rfl⟩ := List.mem_map.1 hu; rfl) (by unfold maxLen; omega) (by omega) (by simp) ?_; intro v4 u4 hown4 hgrow4 _ _; obtain ⟨gt, ct, rfl, ot, bt⟩ := HCO.out u4 v4 hown4 hgrow4; have OT := Lib.hid ot; have BT := Lib.hid bt; have sd : u3.heap.size ≤ u4.heap.size := bt.size; clear hown4 hgrow4 ot bt l0 l1 l2 ll HS HME HML HCO)
        go_loopw [11] (fun i w' => ∃ j : Nat, j ≤ 4 ∧ i = .int .i64 j ∧ Own u3.heap.size w' (.slice (some ⟨gt, 0, none⟩) 4 ct) (mixL rr rs xs j) ∧ Below u3.heap.size u3 w') (fun i _ => 4 - (intOf i).toNat)
        case atStart => exact ⟨0, by omega, rfl, by rw [mixL_zero hr4]; exact OT.out, BT.out⟩
        case round =>
          obtain ⟨j, hj, rfl, ho, hbt⟩ := hrel
          have se := hbt.size
          have HO := Lib.hid ho
          have HBt := Lib.hid hbt
          clear ho hbt
          by_cases hjl : j < 4
          · have hh := has_any u3.heap.size wr ar rr cr j (by omega) (HRN.out.kept HBt.out)
            have j0 : (0 : Int) ≤ (j : Int) := Int.natCast_nonneg _
            have j1 : (j : Int) < 4 := by omega
            cases hin : inL rr (j : Int) with
            | true =>
              rw [hin] at hh
              replace hh := Lib.hid hh
              have HIN := Lib.hid (mixL_yes (rs := rs) (xs := xs) hin)
              clear hin
              go_wp2_with fail
              refine hh.out.mono ?_
              rintro e w' ⟨rfl, rfl⟩
              go_wp2_with fail
              go_roundw
              case rel => exact ⟨j + 1, hjl, by go_num, by rw [HIN.out]; exact HO.out, HBt.out⟩
              case measure => simp [intOf]; omega
            | false =>
              rw [hin] at hh
              replace hh := Lib.hid hh
              have HIN := Lib.hid (mixL_no (rs := rs) (xs := xs) hin)
              clear hin
              obtain ⟨gx', ox', hax, _, hx⟩ := nums_at (HX3.out.kept ((HBc.out.trans (HBt.out.mono (by omega))).mono (Nat.le_refl _))) j (by omega)
              cases hax
              obtain ⟨gt', hat, hgt1, hgt2, hot⟩ := own_at HO.out (mixL_len _ _ _ _)
              cases hat
              have hoc := hot j hjl
              have hof := own_frozen HO.out (mixL_len _ _ _ _) j
              have x1 : (j : Int) < (xs.length : Int) := by omega
              generalize rg xs (j : Int) = u at *
              clear hot
              go_wp2_with fail
              refine hh.out.mono ?_
              rintro e w' ⟨rfl, rfl⟩
              go_wp2_with fail
              go_roundw
              case rel => exact ⟨j + 1, hjl, by go_num, by rw [HIN.out]; exact HO.out.stored j _, HBt.out.setCell hgt1 _⟩
              case measure => simp [intOf]; omega
          · obtain rfl : j = 4 := by omega
            have ho4 := HO.out
            rw [← HMS.out] at ho4
            have HO4 := Lib.hid ho4
            clear ho4
            have HBd := Lib.hid (HBc.out.trans (HBt.out.mono (by omega)))
            have hk1 : Kept wr wr := Below.refl _ _
            have hz := hk1.size
            have HMN := Lib.hid (fun (W : World) (hW : Kept wr W) => (Own.below HO4.out hW).nums HMR.out (Nat.le_refl _))
            have HC2w := Lib.hid (fun (W : World) (hW : Kept wr W) => (HC2.out W _ _ ct (HMN.out W hW) (Nat.le_refl _)).mono (fun e w' h => row4 hql HQR.out h))
            obtain ⟨d0, d1, d2, d3⟩ := HD4.out wr HBd.out
            obtain ⟨⟨l0, l1, l2⟩, lf, ll⟩ := (X3.out.below HBd.out).three
            clear lf
            have gpl : gp < wr.heap.size := by omega
            go_upto_region 17 with fail
            go_region_held3 (fun w' => (w'.cell? ⟨gp, op + k * 4, none⟩ = some (.int .i64 xo) ∧ w'.cell? ⟨gp, op + k * 4 + 1, none⟩ = some (.int .i64 xa) ∧ w'.cell? ⟨gp, op + k * 4 + 2, none⟩ = some (.int .i64 xb) ∧ w'.cell? ⟨gp, op + k * 4 + 3, none⟩ = some (.int .i64 xc)) ∧ w'.cell? ⟨w1.heap.size, 0, none⟩ = some (.int .i64 t) ∧ w'.cell? ⟨w1.heap.size, 1, none⟩ = some (.int .i64 pc) ∧ w'.cell? ⟨w1.heap.size, 2, none⟩ = some (.slice (some ⟨gr, og, none⟩) 4 rc)) (first | go_keep | ((repeat' apply And.intro) <;> (first | (rw [hb1.cell (by simp; omega)]; simp [*]) | go_keep))) ((first
              | (go_at_call 15; refine (HC2w.out _ (by first | with_reducible exact hk1 | with_reducible exact Kept.drew hk1)).mono ?_; rintro e u5 ⟨gb, cb, rfl, n1, hb1⟩; have HQ5 := Lib.hid n1; clear n1; replace hk1 : Kept wr u5 := (by first | with_reducible exact Kept.call hk1 hb1 | with_reducible exact Kept.call (Kept.drew hk1) hb1); have hz := hk1.size)))
            have sg : wr.heap.size ≤ u5.heap.size := hk1.size
            have HBe := Lib.hid (HBd.out.trans (Below.mono hk1 (by omega)))
            have HM5 := Lib.hid (HMN.out u5 hk1)
            have HY5 := Lib.hid (HYC.out.kept ((HBt.out.mono (by omega)).trans (Below.mono hk1 (by omega))))
            have HR5 := Lib.hid (HR3.out.kept (HBe.out.mono (by omega)))
            have X5 := Lib.hid (X3.out.below HBe.out)
            clear hk1 HC2w HMN d0 d1 d2 d3 l0 l1 l2 ll gpl hb1
            have HAW := pAreWords_any _ u5 (some ⟨ga, 0, none⟩) ys ca (by omega) HY5.out
            rw [hyl, HYW.out] at HAW
            replace HAW := Lib.hid HAW
            go_wp2_with fail
            refine HAW.out.mono ?_
            rintro e w' ⟨rfl, rfl⟩
            go_wp2_with fail
            clear HN1 HN2 HN3 HR1 HR2 HR3 HX3 X2 X3 HD4 HC2 HWR HRD HRA HXK HXW HLC HRW HP HB1 HB2 HBa HBb HBc HBd HYA HYB HYC HRN OT BT HO HBt HO4 HB HYW HYR HQR HMR HAW HL HBy HD
            go_loopw [13] (fun i w' => ∃ j : Nat, j ≤ 4 ∧ i = .int .i64 j ∧ Below u5.heap.size u5 w') (fun i _ => 4 - (intOf i).toNat)
            case atStart => exact ⟨0, by omega, rfl, Below.refl _ _⟩
            case round =>
              obtain ⟨j, hj, rfl, hb⟩ := hrel
              have sh := hb.size
              have HBf := Lib.hid hb
              clear hb
              by_cases hjl : j < 4
              · have j0 : (0 : Int) ≤ (j : Int) := Int.natCast_nonneg _
                have j1 : (j : Int) < 4 := by omega
                obtain ⟨_, _, e1, hg1, hc1⟩ := nums_at (HY5.out.kept (HBf.out.mono (by omega))) j (by omega)
                cases e1
                obtain ⟨_, _, e1, hg2, hc2⟩ := nums_at (HR5.out.kept (HBf.out.mono (by omega))) j (by omega)
                cases e1
                obtain ⟨_, _, e1, hg3, hc3⟩ := nums_at (HM5.out.kept HBf.out) j (by rw [HMS.out, mixL_len]; omega)
                cases e1
                obtain ⟨_, _, e1, hg4, hc4⟩ := nums_at (HQ5.out.kept HBf.out) j (by omega)
                cases e1
                obtain ⟨⟨l0, l1, l2⟩, lf, ll⟩ := (X5.out.below HBf.out).three
                have HAPj := HAP.out j hjl
                simp only [Nat.zero_add] at hc1 hc3 hc4
                clear lf
                by_cases hw : (j : Int) = wv
                · have e2 := HAPj.2 hw
                  rw [e2] at hc1
                  clear HAPj e2 HAP
                  subst hw
                  generalize rg qs (j : Int) = u at *
                  go_upto_region 23 with fail
                  refine wp_region_held_drew (S := (fun w' => w'.cell? ⟨w1.heap.size, 2, none⟩ = some (.slice (some ⟨gr, og, none⟩) 4 rc) ∧ w'.cell? ⟨ga, j, none⟩ = some (.int .i64 u) ∧ w'.cell? ⟨gr, og + j, none⟩ = some (.int .i64 (rg rs (j : Int))) ∧ w'.cell? ⟨gt, j, none⟩ = some (.int .i64 (rg ms (j : Int))) ∧ w'.cell? ⟨gb, j, none⟩ = some (.int .i64 u))) (by kernel_rfl) ?_ (fun hHeld => ?_)
                  · (try dsimp only); (first | go_keep | (simp [*]))
                  refine' take_yes 0 94 rfl rfl (by kernel_rfl) (by kernel_rfl) (by kernel_rfl) (by rfl) ?hY0 (by assumption) (fun _ _ _ h => h) ?rY0
                  case hY0 => (intro w hSw; (try dsimp only at hSw); (try simp only [List.getElem_toArray, List.getElem_cons_zero]); (go_simp <;> with_reducible rfl))
                  (try simp only [Act.put, List.setIfInBounds_toArray, List.set_cons_zero, List.set_cons_succ])
                  refine' take_yes 1 95 rfl rfl (by kernel_rfl) (by kernel_rfl) (by kernel_rfl) (by rfl) ?hY1 (by assumption) (fun _ _ _ h => h) ?rY1
                  case hY1 => (intro w hSw; (try dsimp only at hSw); (try simp only [List.getElem_toArray, List.getElem_cons_succ, List.getElem_cons_zero]); (go_simp <;> with_reducible rfl))
                  (try simp only [Act.put, List.setIfInBounds_toArray, List.set_cons_zero, List.set_cons_succ])
                  refine' take_yes 2 96 rfl rfl (by kernel_rfl) (by kernel_rfl) (by kernel_rfl) (by rfl) ?hY2 (by assumption) (fun _ _ _ h => h) ?rY2
                  case hY2 => (intro w hSw; (try dsimp only at hSw); (try simp only [List.getElem_toArray, List.getElem_cons_succ, List.getElem_cons_zero]); (go_simp <;> with_reducible rfl))
                  (try simp only [Act.put, List.setIfInBounds_toArray, List.set_cons_zero, List.set_cons_succ])
                  refine' take_yes 3 97 rfl rfl (by kernel_rfl) (by kernel_rfl) (by kernel_rfl) (by rfl) ?hY3 (by assumption) (fun _ _ _ h => h) ?rY3
                  case hY3 => (intro w hSw; (try dsimp only at hSw); (try simp only [List.getElem_toArray, List.getElem_cons_succ, List.getElem_cons_zero]); (go_simp <;> with_reducible rfl))
                  (try simp only [Act.put, List.setIfInBounds_toArray, List.set_cons_zero, List.set_cons_succ])
                  refine take_no 4 98 rfl rfl (by kernel_rfl) (by kernel_rfl) (by kernel_rfl) (by rfl) (by assumption) (fun _ _ _ h => h) ?_
                  (try simp only [Act.put, List.setIfInBounds_toArray, List.set_cons_zero, List.set_cons_succ])
                  refine take_no 5 99 rfl rfl (by kernel_rfl) (by kernel_rfl) (by kernel_rfl) (by rfl) (by assumption) (fun _ _ _ h => h) ?_
                  (try simp only [Act.put, List.setIfInBounds_toArray, List.set_cons_zero, List.set_cons_succ])
                  refine take_no 6 100 rfl rfl (by kernel_rfl) (by kernel_rfl) (by kernel_rfl) (by rfl) (by assumption) (fun _ _ _ h => h) ?_
                  (try simp only [Act.put, List.setIfInBounds_toArray, List.set_cons_zero, List.set_cons_succ])
                  refine take_no 7 101 rfl rfl (by kernel_rfl) (by kernel_rfl) (by kernel_rfl) (by rfl) (by assumption) (fun _ _ _ h => h) ?_
                  (try simp only [Act.put, List.setIfInBounds_toArray, List.set_cons_zero, List.set_cons_succ])
                  refine take_no 8 102 rfl rfl (by kernel_rfl) (by kernel_rfl) (by kernel_rfl) (by rfl) (by assumption) (fun _ _ _ h => h) ?_
                  (try simp only [Act.put, List.setIfInBounds_toArray, List.set_cons_zero, List.set_cons_succ])
                  refine take_no 9 103 rfl rfl (by kernel_rfl) (by kernel_rfl) (by kernel_rfl) (by rfl) (by assumption) (fun _ _ _ h => h) ?_
                  (try simp only [Act.put, List.setIfInBounds_toArray, List.set_cons_zero, List.set_cons_succ])
                  refine take_no 10 104 rfl rfl (by kernel_rfl) (by kernel_rfl) (by kernel_rfl) (by rfl) (by assumption) (fun _ _ _ h => h) ?_
                  (try simp only [Act.put, List.setIfInBounds_toArray, List.set_cons_zero, List.set_cons_succ])
                  refine take_no 11 105 rfl rfl (by kernel_rfl) (by kernel_rfl) (by kernel_rfl) (by rfl) (by assumption) (fun _ _ _ h => h) ?_
                  (try simp only [Act.put, List.setIfInBounds_toArray, List.set_cons_zero, List.set_cons_succ])
                  refine take_no 12 106 rfl rfl (by kernel_rfl) (by kernel_rfl) (by kernel_rfl) (by rfl) (by assumption) (fun _ _ _ h => h) ?_
                  (try simp only [Act.put, List.setIfInBounds_toArray, List.set_cons_zero, List.set_cons_succ])
                  refine take_no 13 107 rfl rfl (by kernel_rfl) (by kernel_rfl) (by kernel_rfl) (by rfl) (by assumption) (fun _ _ _ h => h) ?_
                  (try simp only [Act.put, List.setIfInBounds_toArray, List.set_cons_zero, List.set_cons_succ])
                  refine take_no 14 108 rfl rfl (by kernel_rfl) (by kernel_rfl) (by kernel_rfl) (by rfl) (by assumption) (fun _ _ _ h => h) ?_
                  (try simp only [Act.put, List.setIfInBounds_toArray, List.set_cons_zero, List.set_cons_succ])
                  refine take_no 15 109 rfl rfl (by kernel_rfl) (by kernel_rfl) (by kernel_rfl) (by rfl) (by assumption) (fun _ _ _ h => h) ?_
                  (try simp only [Act.put, List.setIfInBounds_toArray, List.set_cons_zero, List.set_cons_succ])
                  refine take_no 16 110 rfl rfl (by kernel_rfl) (by kernel_rfl) (by kernel_rfl) (by rfl) (by assumption) (fun _ _ _ h => h) ?_
                  (try simp only [Act.put, List.setIfInBounds_toArray, List.set_cons_zero, List.set_cons_succ])
                  refine take_no 17 111 rfl rfl (by kernel_rfl) (by kernel_rfl) (by kernel_rfl) (by rfl) (by assumption) (fun _ _ _ h => h) ?_
                  (try simp only [Act.put, List.setIfInBounds_toArray, List.set_cons_zero, List.set_cons_succ])
                  refine take_no 18 112 rfl rfl (by kernel_rfl) (by kernel_rfl) (by kernel_rfl) (by rfl) (by assumption) (fun _ _ _ h => h) ?_
                  (try simp only [Act.put, List.setIfInBounds_toArray, List.set_cons_zero, List.set_cons_succ])
                  refine take_no 19 113 rfl rfl (by kernel_rfl) (by kernel_rfl) (by kernel_rfl) (by rfl) (by assumption) (fun _ _ _ h => h) ?_
                  (try simp only [Act.put, List.setIfInBounds_toArray, List.set_cons_zero, List.set_cons_succ])
                  refine take_no 20 114 rfl rfl (by kernel_rfl) (by kernel_rfl) (by kernel_rfl) (by rfl) (by assumption) (fun _ _ _ h => h) ?_
                  (try simp only [Act.put, List.setIfInBounds_toArray, List.set_cons_zero, List.set_cons_succ])
                  refine take_no 21 115 rfl rfl (by kernel_rfl) (by kernel_rfl) (by kernel_rfl) (by rfl) (by assumption) (fun _ _ _ h => h) ?_
                  (try simp only [Act.put, List.setIfInBounds_toArray, List.set_cons_zero, List.set_cons_succ])
                  refine take_no 22 116 rfl rfl (by kernel_rfl) (by kernel_rfl) (by kernel_rfl) (by rfl) (by assumption) (fun _ _ _ h => h) ?_
                  (try simp only [Act.put, List.setIfInBounds_toArray, List.set_cons_zero, List.set_cons_succ])
                  refine take_no 23 117 rfl rfl (by kernel_rfl) (by kernel_rfl) (by kernel_rfl) (by rfl) (by assumption) (fun _ _ _ h => h) ?_
                  (try simp only [Act.put, List.setIfInBounds_toArray, List.set_cons_zero, List.set_cons_succ])
                  refine take_no 24 118 rfl rfl (by kernel_rfl) (by kernel_rfl) (by kernel_rfl) (by rfl) (by assumption) (fun _ _ _ h => h) ?_
                  (try simp only [Act.put, List.setIfInBounds_toArray, List.set_cons_zero, List.set_cons_succ])
                  refine' take_yes 25 119 rfl rfl (by kernel_rfl) (by kernel_rfl) (by kernel_rfl) (by rfl) ?hY25 (by assumption) (fun _ _ _ h => h) ?rY25
                  case hY25 => (intro w hSw; (try dsimp only at hSw); (try simp only [List.getElem_toArray, List.getElem_cons_succ, List.getElem_cons_zero]); (go_simp <;> with_reducible rfl))
                  (try simp only [Act.put, List.setIfInBounds_toArray, List.set_cons_zero, List.set_cons_succ])
                  refine' take_yes 26 120 rfl rfl (by kernel_rfl) (by kernel_rfl) (by kernel_rfl) (by rfl) ?hY26 (by assumption) (fun _ _ _ h => h) ?rY26
                  case hY26 => (intro w hSw; (try dsimp only at hSw); (try simp only [List.getElem_toArray, List.getElem_cons_succ, List.getElem_cons_zero]); (go_simp <;> with_reducible rfl))
                  (try simp only [Act.put, List.setIfInBounds_toArray, List.set_cons_zero, List.set_cons_succ])
                  refine' take_yes 27 121 rfl rfl (by kernel_rfl) (by kernel_rfl) (by kernel_rfl) (by rfl) ?hY27 (by assumption) (fun _ _ _ h => h) ?rY27
                  case hY27 => (intro w hSw; (try dsimp only at hSw); (try simp only [List.getElem_toArray, List.getElem_cons_succ, List.getElem_cons_zero]); (go_simp <;> with_reducible rfl))
                  (try simp only [Act.put, List.setIfInBounds_toArray, List.set_cons_zero, List.set_cons_succ])
                  refine' take_yes 28 122 rfl rfl (by kernel_rfl) (by kernel_rfl) (by kernel_rfl) (by rfl) ?hY28 (by assumption) (fun _ _ _ h => h) ?rY28
                  case hY28 => (intro w hSw; (try dsimp only at hSw); (try simp only [List.getElem_toArray, List.getElem_cons_succ, List.getElem_cons_zero]); (go_simp <;> with_reducible rfl))
                  (try simp only [Act.put, List.setIfInBounds_toArray, List.set_cons_zero, List.set_cons_succ])
                  refine' take_yes 29 123 rfl rfl (by kernel_rfl) (by kernel_rfl) (by kernel_rfl) (by rfl) ?hY29 (by assumption) (fun _ _ _ h => h) ?rY29
                  case hY29 => (intro w hSw; (try dsimp only at hSw); (try simp only [List.getElem_toArray, List.getElem_cons_succ, List.getElem_cons_zero]); (go_simp <;> with_reducible rfl))
                  (try simp only [Act.put, List.setIfInBounds_toArray, List.set_cons_zero, List.set_cons_succ])
                  refine' take_yes 30 124 rfl rfl (by kernel_rfl) (by kernel_rfl) (by kernel_rfl) (by rfl) ?hY30 (by assumption) (fun _ _ _ h => h) ?rY30
                  case hY30 => (intro w hSw; (try dsimp only at hSw); (try simp only [List.getElem_toArray, List.getElem_cons_succ, List.getElem_cons_zero]); (go_simp <;> with_reducible rfl))
                  (try simp only [Act.put, List.setIfInBounds_toArray, List.set_cons_zero, List.set_cons_succ])
                  refine' take_yes 31 125 rfl rfl (by kernel_rfl) (by kernel_rfl) (by kernel_rfl) (by rfl) ?hY31 (by assumption) (fun _ _ _ h => h) ?rY31
                  case hY31 => (intro w hSw; (try dsimp only at hSw); (try simp only [List.getElem_toArray, List.getElem_cons_succ, List.getElem_cons_zero]); (go_simp <;> with_reducible rfl))
                  (try simp only [Act.put, List.setIfInBounds_toArray, List.set_cons_zero, List.set_cons_succ])
                  refine' take_yes 32 126 rfl rfl (by kernel_rfl) (by kernel_rfl) (by kernel_rfl) (by rfl) ?hY32 (by assumption) (fun _ _ _ h => h) ?rY32
                  case hY32 => (intro w hSw; (try dsimp only at hSw); (try simp only [List.getElem_toArray, List.getElem_cons_succ, List.getElem_cons_zero]); (go_simp <;> with_reducible rfl))
                  (try simp only [Act.put, List.setIfInBounds_toArray, List.set_cons_zero, List.set_cons_succ])
                  refine' take_yes 33 127 rfl rfl (by kernel_rfl) (by kernel_rfl) (by kernel_rfl) (by rfl) ?hY33 (by assumption) (fun _ _ _ h => h) ?rY33
                  case hY33 => (intro w hSw; (try dsimp only at hSw); (try simp only [List.getElem_toArray, List.getElem_cons_succ, List.getElem_cons_zero]); (go_simp <;> with_reducible rfl))
                  (try simp only [Act.put, List.setIfInBounds_toArray, List.set_cons_zero, List.set_cons_succ])
                  refine' take_yes 34 128 rfl rfl (by kernel_rfl) (by kernel_rfl) (by kernel_rfl) (by rfl) ?hY34 (by assumption) (fun _ _ _ h => h) ?rY34
                  case hY34 => (intro w hSw; (try dsimp only at hSw); (try simp only [List.getElem_toArray, List.getElem_cons_succ, List.getElem_cons_zero]); (go_simp <;> with_reducible rfl))
                  (try simp only [Act.put, List.setIfInBounds_toArray, List.set_cons_zero, List.set_cons_succ])
                  refine' take_yes 35 129 rfl rfl (by kernel_rfl) (by kernel_rfl) (by kernel_rfl) (by rfl) ?hY35 (by assumption) (fun _ _ _ h => h) ?rY35
                  case hY35 => (intro w hSw; (try dsimp only at hSw); (try simp only [List.getElem_toArray, List.getElem_cons_succ, List.getElem_cons_zero]); (go_simp <;> with_reducible rfl))
                  (try simp only [Act.put, List.setIfInBounds_toArray, List.set_cons_zero, List.set_cons_succ])
                  refine' take_yes 36 130 rfl rfl (by kernel_rfl) (by kernel_rfl) (by kernel_rfl) (by rfl) ?hY36 (by assumption) (fun _ _ _ h => h) ?rY36
                  case hY36 => (intro w hSw; (try dsimp only at hSw); (try simp only [List.getElem_toArray, List.getElem_cons_succ, List.getElem_cons_zero]); (go_simp <;> with_reducible rfl))
                  (try simp only [Act.put, List.setIfInBounds_toArray, List.set_cons_zero, List.set_cons_succ])
                  refine' take_yes 37 131 rfl rfl (by kernel_rfl) (by kernel_rfl) (by kernel_rfl) (by rfl) ?hY37 (by assumption) (fun _ _ _ h => h) ?rY37
                  case hY37 => (intro w hSw; (try dsimp only at hSw); (try simp only [List.getElem_toArray, List.getElem_cons_succ, List.getElem_cons_zero]); (go_simp <;> with_reducible rfl))
                  (try simp only [Act.put, List.setIfInBounds_toArray, List.set_cons_zero, List.set_cons_succ])
                  refine' take_yes 38 132 rfl rfl (by kernel_rfl) (by kernel_rfl) (by kernel_rfl) (by rfl) ?hY38 (by assumption) (fun _ _ _ h => h) ?rY38
                  case hY38 => (intro w hSw; (try dsimp only at hSw); (try simp only [List.getElem_toArray, List.getElem_cons_succ, List.getElem_cons_zero]); (go_simp <;> with_reducible rfl))
                  (try simp only [Act.put, List.setIfInBounds_toArray, List.set_cons_zero, List.set_cons_succ])
                  refine' take_yes 39 133 rfl rfl (by kernel_rfl) (by kernel_rfl) (by kernel_rfl) (by rfl) ?hY39 (by assumption) (fun _ _ _ h => h) ?rY39
                  case hY39 => (intro w hSw; (try dsimp only at hSw); (try simp only [List.getElem_toArray, List.getElem_cons_succ, List.getElem_cons_zero]); (go_simp <;> with_reducible rfl))
                  (try simp only [Act.put, List.setIfInBounds_toArray, List.set_cons_zero, List.set_cons_succ])
                  refine' take_yes 40 134 rfl rfl (by kernel_rfl) (by kernel_rfl) (by kernel_rfl) (by rfl) ?hY40 (by assumption) (fun _ _ _ h => h) ?rY40
                  case hY40 => (intro w hSw; (try dsimp only at hSw); (try simp only [List.getElem_toArray, List.getElem_cons_succ, List.getElem_cons_zero]); (go_simp <;> with_reducible rfl))
                  (try simp only [Act.put, List.setIfInBounds_toArray, List.set_cons_zero, List.set_cons_succ])
                  refine' take_yes 41 135 rfl rfl (by kernel_rfl) (by kernel_rfl) (by kernel_rfl) (by rfl) ?hY41 (by assumption) (fun _ _ _ h => h) ?rY41
                  case hY41 => (intro w hSw; (try dsimp only at hSw); (try simp only [List.getElem_toArray, List.getElem_cons_succ, List.getElem_cons_zero]); (go_simp <;> with_reducible rfl))
                  (try simp only [Act.put, List.setIfInBounds_toArray, List.set_cons_zero, List.set_cons_succ])
                  refine wpAnyH_done (by kernel_rfl) ?_ _
                  go_wp2_with fail
                  go_roundw
                  case rel => exact ⟨j + 1, hjl, by go_num, HBf.out.trans (below_drewN _ _ 1)⟩
                  case measure => simp [intOf]; omega
                · obtain ⟨e2, e3⟩ := HAPj.1 hw
                  rw [e2] at hc1
                  rw [e3] at hc4
                  have w1' : ((j : Int) == wv) = false := by simpa using hw
                  have w2' : ((j : Int) != wv) = true := by simpa using hw
                  clear HAPj e2 e3
                  generalize rg rs (j : Int) = u at *
                  generalize rg ms (j : Int) = v at *
                  go_upto_region 23 with fail
                  refine wp_region_held_drew (S := (fun w' => w'.cell? ⟨w1.heap.size, 2, none⟩ = some (.slice (some ⟨gr, og, none⟩) 4 rc) ∧ w'.cell? ⟨ga, j, none⟩ = some (.int .i64 u) ∧ w'.cell? ⟨gr, og + j, none⟩ = some (.int .i64 u) ∧ w'.cell? ⟨gt, j, none⟩ = some (.int .i64 v) ∧ w'.cell? ⟨gb, j, none⟩ = some (.int .i64 v))) (by kernel_rfl) ?_ (fun hHeld => ?_)
                  · (try dsimp only); (first | go_keep | (simp [*]))
                  refine' take_yes 0 94 rfl rfl (by kernel_rfl) (by kernel_rfl) (by kernel_rfl) (by rfl) ?hN0 (by assumption) (fun _ _ _ h => h) ?rN0
                  case hN0 => (intro w hSw; (try dsimp only at hSw); (try simp only [List.getElem_toArray, List.getElem_cons_zero]); (go_simp <;> with_reducible rfl))
                  (try simp only [Act.put, List.setIfInBounds_toArray, List.set_cons_zero, List.set_cons_succ])
                  refine' take_yes 1 95 rfl rfl (by kernel_rfl) (by kernel_rfl) (by kernel_rfl) (by rfl) ?hN1 (by assumption) (fun _ _ _ h => h) ?rN1
                  case hN1 => (intro w hSw; (try dsimp only at hSw); (try simp only [List.getElem_toArray, List.getElem_cons_succ, List.getElem_cons_zero]); (go_simp <;> with_reducible rfl))
                  (try simp only [Act.put, List.setIfInBounds_toArray, List.set_cons_zero, List.set_cons_succ])
                  refine' take_yes 2 96 rfl rfl (by kernel_rfl) (by kernel_rfl) (by kernel_rfl) (by rfl) ?hN2 (by assumption) (fun _ _ _ h => h) ?rN2
                  case hN2 => (intro w hSw; (try dsimp only at hSw); (try simp only [List.getElem_toArray, List.getElem_cons_succ, List.getElem_cons_zero]); (go_simp <;> with_reducible rfl))
                  (try simp only [Act.put, List.setIfInBounds_toArray, List.set_cons_zero, List.set_cons_succ])
                  refine' take_yes 3 97 rfl rfl (by kernel_rfl) (by kernel_rfl) (by kernel_rfl) (by rfl) ?hN3 (by assumption) (fun _ _ _ h => h) ?rN3
                  case hN3 => (intro w hSw; (try dsimp only at hSw); (try simp only [List.getElem_toArray, List.getElem_cons_succ, List.getElem_cons_zero]); (go_simp <;> with_reducible rfl))
                  (try simp only [Act.put, List.setIfInBounds_toArray, List.set_cons_zero, List.set_cons_succ])
                  refine' take_yes 4 98 rfl rfl (by kernel_rfl) (by kernel_rfl) (by kernel_rfl) (by rfl) ?hN4 (by assumption) (fun _ _ _ h => h) ?rN4
                  case hN4 => (intro w hSw; (try dsimp only at hSw); (try simp only [List.getElem_toArray, List.getElem_cons_succ, List.getElem_cons_zero]); (go_simp <;> with_reducible rfl))
                  (try simp only [Act.put, List.setIfInBounds_toArray, List.set_cons_zero, List.set_cons_succ])
                  refine' take_yes 5 99 rfl rfl (by kernel_rfl) (by kernel_rfl) (by kernel_rfl) (by rfl) ?hN5 (by assumption) (fun _ _ _ h => h) ?rN5
                  case hN5 => (intro w hSw; (try dsimp only at hSw); (try simp only [List.getElem_toArray, List.getElem_cons_succ, List.getElem_cons_zero]); (go_simp <;> with_reducible rfl))
                  (try simp only [Act.put, List.setIfInBounds_toArray, List.set_cons_zero, List.set_cons_succ])
                  refine' take_yes 6 100 rfl rfl (by kernel_rfl) (by kernel_rfl) (by kernel_rfl) (by rfl) ?hN6 (by assumption) (fun _ _ _ h => h) ?rN6
                  case hN6 => (intro w hSw; (try dsimp only at hSw); (try simp only [List.getElem_toArray, List.getElem_cons_succ, List.getElem_cons_zero]); (go_simp <;> with_reducible rfl))
                  (try simp only [Act.put, List.setIfInBounds_toArray, List.set_cons_zero, List.set_cons_succ])
                  refine' take_yes 7 101 rfl rfl (by kernel_rfl) (by kernel_rfl) (by kernel_rfl) (by rfl) ?hN7 (by assumption) (fun _ _ _ h => h) ?rN7
                  case hN7 => (intro w hSw; (try dsimp only at hSw); (try simp only [List.getElem_toArray, List.getElem_cons_succ, List.getElem_cons_zero]); (go_simp <;> with_reducible rfl))
                  (try simp only [Act.put, List.setIfInBounds_toArray, List.set_cons_zero, List.set_cons_succ])
                  refine' take_yes 8 102 rfl rfl (by kernel_rfl) (by kernel_rfl) (by kernel_rfl) (by rfl) ?hN8 (by assumption) (fun _ _ _ h => h) ?rN8
                  case hN8 => (intro w hSw; (try dsimp only at hSw); (try simp only [List.getElem_toArray, List.getElem_cons_succ, List.getElem_cons_zero]); (go_simp <;> with_reducible rfl))
                  (try simp only [Act.put, List.setIfInBounds_toArray, List.set_cons_zero, List.set_cons_succ])
                  refine' take_yes 9 103 rfl rfl (by kernel_rfl) (by kernel_rfl) (by kernel_rfl) (by rfl) ?hN9 (by assumption) (fun _ _ _ h => h) ?rN9
                  case hN9 => (intro w hSw; (try dsimp only at hSw); (try simp only [List.getElem_toArray, List.getElem_cons_succ, List.getElem_cons_zero]); (go_simp <;> with_reducible rfl))
                  (try simp only [Act.put, List.setIfInBounds_toArray, List.set_cons_zero, List.set_cons_succ])
                  refine' take_yes 10 104 rfl rfl (by kernel_rfl) (by kernel_rfl) (by kernel_rfl) (by rfl) ?hN10 (by assumption) (fun _ _ _ h => h) ?rN10
                  case hN10 => (intro w hSw; (try dsimp only at hSw); (try simp only [List.getElem_toArray, List.getElem_cons_succ, List.getElem_cons_zero]); (go_simp <;> with_reducible rfl))
                  (try simp only [Act.put, List.setIfInBounds_toArray, List.set_cons_zero, List.set_cons_succ])
                  refine' take_yes 11 105 rfl rfl (by kernel_rfl) (by kernel_rfl) (by kernel_rfl) (by rfl) ?hN11 (by assumption) (fun _ _ _ h => h) ?rN11
                  case hN11 => (intro w hSw; (try dsimp only at hSw); (try simp only [List.getElem_toArray, List.getElem_cons_succ, List.getElem_cons_zero]); (go_simp <;> with_reducible rfl))
                  (try simp only [Act.put, List.setIfInBounds_toArray, List.set_cons_zero, List.set_cons_succ])
                  refine' take_yes 12 106 rfl rfl (by kernel_rfl) (by kernel_rfl) (by kernel_rfl) (by rfl) ?hN12 (by assumption) (fun _ _ _ h => h) ?rN12
                  case hN12 => (intro w hSw; (try dsimp only at hSw); (try simp only [List.getElem_toArray, List.getElem_cons_succ, List.getElem_cons_zero]); (go_simp <;> with_reducible rfl))
                  (try simp only [Act.put, List.setIfInBounds_toArray, List.set_cons_zero, List.set_cons_succ])
                  refine' take_yes 13 107 rfl rfl (by kernel_rfl) (by kernel_rfl) (by kernel_rfl) (by rfl) ?hN13 (by assumption) (fun _ _ _ h => h) ?rN13
                  case hN13 => (intro w hSw; (try dsimp only at hSw); (try simp only [List.getElem_toArray, List.getElem_cons_succ, List.getElem_cons_zero]); (go_simp <;> with_reducible rfl))
                  (try simp only [Act.put, List.setIfInBounds_toArray, List.set_cons_zero, List.set_cons_succ])
                  refine' take_yes 14 108 rfl rfl (by kernel_rfl) (by kernel_rfl) (by kernel_rfl) (by rfl) ?hN14 (by assumption) (fun _ _ _ h => h) ?rN14
                  case hN14 => (intro w hSw; (try dsimp only at hSw); (try simp only [List.getElem_toArray, List.getElem_cons_succ, List.getElem_cons_zero]); (go_simp <;> with_reducible rfl))
                  (try simp only [Act.put, List.setIfInBounds_toArray, List.set_cons_zero, List.set_cons_succ])
                  refine' take_yes 15 109 rfl rfl (by kernel_rfl) (by kernel_rfl) (by kernel_rfl) (by rfl) ?hN15 (by assumption) (fun _ _ _ h => h) ?rN15
                  case hN15 => (intro w hSw; (try dsimp only at hSw); (try simp only [List.getElem_toArray, List.getElem_cons_succ, List.getElem_cons_zero]); (go_simp <;> with_reducible rfl))
                  (try simp only [Act.put, List.setIfInBounds_toArray, List.set_cons_zero, List.set_cons_succ])
                  refine' take_yes 16 110 rfl rfl (by kernel_rfl) (by kernel_rfl) (by kernel_rfl) (by rfl) ?hN16 (by assumption) (fun _ _ _ h => h) ?rN16
                  case hN16 => (intro w hSw; (try dsimp only at hSw); (try simp only [List.getElem_toArray, List.getElem_cons_succ, List.getElem_cons_zero]); (go_simp <;> with_reducible rfl))
                  (try simp only [Act.put, List.setIfInBounds_toArray, List.set_cons_zero, List.set_cons_succ])
                  refine' take_yes 17 111 rfl rfl (by kernel_rfl) (by kernel_rfl) (by kernel_rfl) (by rfl) ?hN17 (by assumption) (fun _ _ _ h => h) ?rN17
                  case hN17 => (intro w hSw; (try dsimp only at hSw); (try simp only [List.getElem_toArray, List.getElem_cons_succ, List.getElem_cons_zero]); (go_simp <;> with_reducible rfl))
                  (try simp only [Act.put, List.setIfInBounds_toArray, List.set_cons_zero, List.set_cons_succ])
                  refine' take_yes 18 112 rfl rfl (by kernel_rfl) (by kernel_rfl) (by kernel_rfl) (by rfl) ?hN18 (by assumption) (fun _ _ _ h => h) ?rN18
                  case hN18 => (intro w hSw; (try dsimp only at hSw); (try simp only [List.getElem_toArray, List.getElem_cons_succ, List.getElem_cons_zero]); (go_simp <;> with_reducible rfl))
                  (try simp only [Act.put, List.setIfInBounds_toArray, List.set_cons_zero, List.set_cons_succ])
                  refine' take_yes 19 113 rfl rfl (by kernel_rfl) (by kernel_rfl) (by kernel_rfl) (by rfl) ?hN19 (by assumption) (fun _ _ _ h => h) ?rN19
                  case hN19 => (intro w hSw; (try dsimp only at hSw); (try simp only [List.getElem_toArray, List.getElem_cons_succ, List.getElem_cons_zero]); (go_simp <;> with_reducible rfl))
                  (try simp only [Act.put, List.setIfInBounds_toArray, List.set_cons_zero, List.set_cons_succ])
                  refine' take_yes 20 114 rfl rfl (by kernel_rfl) (by kernel_rfl) (by kernel_rfl) (by rfl) ?hN20 (by assumption) (fun _ _ _ h => h) ?rN20
                  case hN20 => (intro w hSw; (try dsimp only at hSw); (try simp only [List.getElem_toArray, List.getElem_cons_succ, List.getElem_cons_zero]); (go_simp <;> with_reducible rfl))
                  (try simp only [Act.put, List.setIfInBounds_toArray, List.set_cons_zero, List.set_cons_succ])
                  refine' take_yes 21 115 rfl rfl (by kernel_rfl) (by kernel_rfl) (by kernel_rfl) (by rfl) ?hN21 (by assumption) (fun _ _ _ h => h) ?rN21
                  case hN21 => (intro w hSw; (try dsimp only at hSw); (try simp only [List.getElem_toArray, List.getElem_cons_succ, List.getElem_cons_zero]); (go_simp <;> with_reducible rfl))
                  (try simp only [Act.put, List.setIfInBounds_toArray, List.set_cons_zero, List.set_cons_succ])
                  refine' take_yes 22 116 rfl rfl (by kernel_rfl) (by kernel_rfl) (by kernel_rfl) (by rfl) ?hN22 (by assumption) (fun _ _ _ h => h) ?rN22
                  case hN22 => (intro w hSw; (try dsimp only at hSw); (try simp only [List.getElem_toArray, List.getElem_cons_succ, List.getElem_cons_zero]); (go_simp <;> with_reducible rfl))
                  (try simp only [Act.put, List.setIfInBounds_toArray, List.set_cons_zero, List.set_cons_succ])
                  refine' take_yes 23 117 rfl rfl (by kernel_rfl) (by kernel_rfl) (by kernel_rfl) (by rfl) ?hN23 (by assumption) (fun _ _ _ h => h) ?rN23
                  case hN23 => (intro w hSw; (try dsimp only at hSw); (try simp only [List.getElem_toArray, List.getElem_cons_succ, List.getElem_cons_zero]); (go_simp <;> with_reducible rfl))
                  (try simp only [Act.put, List.setIfInBounds_toArray, List.set_cons_zero, List.set_cons_succ])
                  refine' take_yes 24 118 rfl rfl (by kernel_rfl) (by kernel_rfl) (by kernel_rfl) (by rfl) ?hN24 (by assumption) (fun _ _ _ h => h) ?rN24
                  case hN24 => (intro w hSw; (try dsimp only at hSw); (try simp only [List.getElem_toArray, List.getElem_cons_succ, List.getElem_cons_zero]); (go_simp <;> with_reducible rfl))
                  (try simp only [Act.put, List.setIfInBounds_toArray, List.set_cons_zero, List.set_cons_succ])
                  refine' take_yes 25 119 rfl rfl (by kernel_rfl) (by kernel_rfl) (by kernel_rfl) (by rfl) ?hN25 (by assumption) (fun _ _ _ h => h) ?rN25
                  case hN25 => (intro w hSw; (try dsimp only at hSw); (try simp only [List.getElem_toArray, List.getElem_cons_succ, List.getElem_cons_zero]); (go_simp <;> with_reducible rfl))
                  (try simp only [Act.put, List.setIfInBounds_toArray, List.set_cons_zero, List.set_cons_succ])
                  refine' take_yes 26 120 rfl rfl (by kernel_rfl) (by kernel_rfl) (by kernel_rfl) (by rfl) ?hN26 (by assumption) (fun _ _ _ h => h) ?rN26
                  case hN26 => (intro w hSw; (try dsimp only at hSw); (try simp only [List.getElem_toArray, List.getElem_cons_succ, List.getElem_cons_zero]); (go_simp <;> with_reducible rfl))
                  (try simp only [Act.put, List.setIfInBounds_toArray, List.set_cons_zero, List.set_cons_succ])
                  refine' take_yes 27 121 rfl rfl (by kernel_rfl) (by kernel_rfl) (by kernel_rfl) (by rfl) ?hN27 (by assumption) (fun _ _ _ h => h) ?rN27
                  case hN27 => (intro w hSw; (try dsimp only at hSw); (try simp only [List.getElem_toArray, List.getElem_cons_succ, List.getElem_cons_zero]); (go_simp <;> with_reducible rfl))
                  (try simp only [Act.put, List.setIfInBounds_toArray, List.set_cons_zero, List.set_cons_succ])
                  refine' take_yes 28 122 rfl rfl (by kernel_rfl) (by kernel_rfl) (by kernel_rfl) (by rfl) ?hN28 (by assumption) (fun _ _ _ h => h) ?rN28
                  case hN28 => (intro w hSw; (try dsimp only at hSw); (try simp only [List.getElem_toArray, List.getElem_cons_succ, List.getElem_cons_zero]); (go_simp <;> with_reducible rfl))
                  (try simp only [Act.put, List.setIfInBounds_toArray, List.set_cons_zero, List.set_cons_succ])
                  refine' take_yes 29 123 rfl rfl (by kernel_rfl) (by kernel_rfl) (by kernel_rfl) (by rfl) ?hN29 (by assumption) (fun _ _ _ h => h) ?rN29
                  case hN29 => (intro w hSw; (try dsimp only at hSw); (try simp only [List.getElem_toArray, List.getElem_cons_succ, List.getElem_cons_zero]); (go_simp <;> with_reducible rfl))
                  (try simp only [Act.put, List.setIfInBounds_toArray, List.set_cons_zero, List.set_cons_succ])
                  refine' take_yes 30 124 rfl rfl (by kernel_rfl) (by kernel_rfl) (by kernel_rfl) (by rfl) ?hN30 (by assumption) (fun _ _ _ h => h) ?rN30
                  case hN30 => (intro w hSw; (try dsimp only at hSw); (try simp only [List.getElem_toArray, List.getElem_cons_succ, List.getElem_cons_zero]); (go_simp <;> with_reducible rfl))
                  (try simp only [Act.put, List.setIfInBounds_toArray, List.set_cons_zero, List.set_cons_succ])
                  refine take_no 31 125 rfl rfl (by kernel_rfl) (by kernel_rfl) (by kernel_rfl) (by rfl) (by assumption) (fun _ _ _ h => h) ?_
                  (try simp only [Act.put, List.setIfInBounds_toArray, List.set_cons_zero, List.set_cons_succ])
                  refine take_no 32 126 rfl rfl (by kernel_rfl) (by kernel_rfl) (by kernel_rfl) (by rfl) (by assumption) (fun _ _ _ h => h) ?_
                  (try simp only [Act.put, List.setIfInBounds_toArray, List.set_cons_zero, List.set_cons_succ])
                  refine take_no 33 127 rfl rfl (by kernel_rfl) (by kernel_rfl) (by kernel_rfl) (by rfl) (by assumption) (fun _ _ _ h => h) ?_
                  (try simp only [Act.put, List.setIfInBounds_toArray, List.set_cons_zero, List.set_cons_succ])
                  refine take_no 34 128 rfl rfl (by kernel_rfl) (by kernel_rfl) (by kernel_rfl) (by rfl) (by assumption) (fun _ _ _ h => h) ?_
                  (try simp only [Act.put, List.setIfInBounds_toArray, List.set_cons_zero, List.set_cons_succ])
                  refine take_no 35 129 rfl rfl (by kernel_rfl) (by kernel_rfl) (by kernel_rfl) (by rfl) (by assumption) (fun _ _ _ h => h) ?_
                  (try simp only [Act.put, List.setIfInBounds_toArray, List.set_cons_zero, List.set_cons_succ])
                  refine take_no 36 130 rfl rfl (by kernel_rfl) (by kernel_rfl) (by kernel_rfl) (by rfl) (by assumption) (fun _ _ _ h => h) ?_
                  (try simp only [Act.put, List.setIfInBounds_toArray, List.set_cons_zero, List.set_cons_succ])
                  refine take_no 37 131 rfl rfl (by kernel_rfl) (by kernel_rfl) (by kernel_rfl) (by rfl) (by assumption) (fun _ _ _ h => h) ?_
                  (try simp only [Act.put, List.setIfInBounds_toArray, List.set_cons_zero, List.set_cons_succ])
                  refine take_no 38 132 rfl rfl (by kernel_rfl) (by kernel_rfl) (by kernel_rfl) (by rfl) (by assumption) (fun _ _ _ h => h) ?_
                  (try simp only [Act.put, List.setIfInBounds_toArray, List.set_cons_zero, List.set_cons_succ])
                  refine take_no 39 133 rfl rfl (by kernel_rfl) (by kernel_rfl) (by kernel_rfl) (by rfl) (by assumption) (fun _ _ _ h => h) ?_
                  (try simp only [Act.put, List.setIfInBounds_toArray, List.set_cons_zero, List.set_cons_succ])
                  refine' take_yes 40 134 rfl rfl (by kernel_rfl) (by kernel_rfl) (by kernel_rfl) (by rfl) ?hN40 (by assumption) (fun _ _ _ h => h) ?rN40
                  case hN40 => (intro w hSw; (try dsimp only at hSw); (try simp only [List.getElem_toArray, List.getElem_cons_succ, List.getElem_cons_zero]); (go_simp <;> with_reducible rfl))
                  (try simp only [Act.put, List.setIfInBounds_toArray, List.set_cons_zero, List.set_cons_succ])
                  refine' take_yes 41 135 rfl rfl (by kernel_rfl) (by kernel_rfl) (by kernel_rfl) (by rfl) ?hN41 (by assumption) (fun _ _ _ h => h) ?rN41
                  case hN41 => (intro w hSw; (try dsimp only at hSw); (try simp only [List.getElem_toArray, List.getElem_cons_succ, List.getElem_cons_zero]); (go_simp <;> with_reducible rfl))
                  (try simp only [Act.put, List.setIfInBounds_toArray, List.set_cons_zero, List.set_cons_succ])
                  refine wpAnyH_done (by kernel_rfl) ?_ _
                  go_wp2_with fail
                  go_roundw
                  case rel => exact ⟨j + 1, hjl, by go_num, HBf.out.trans (below_drewN _ _ 1)⟩
                  case measure => simp [intOf]; omega
              · have HBg := Lib.hid (HBe.out.trans (HBf.out.mono (by omega)))
                go_wp2_with fail
                go_roundw
                case rel => exact ⟨k + 1, hlt, by go_num, HBg.out⟩
                case measure => simp [intOf]; omega
      · go_wp2_with fail
        go_ret
        exact ⟨rfl, HB3.out.trans (HB.out.mono (by omega))⟩

end Go.Proofs.Ytmiopbpahkgmbaa
