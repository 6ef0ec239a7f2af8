/- ParseIns of the model. -/
import Derived.Test.YtceicbncnhmkoaaDoorParseInsP
import Derived.Test.YtceicbncnhmkoaaDoorFmtInsS
import Derived.Test.YtceicbncnhmkoaaDoorSplitS
import Derived.Deep.RegionHeld3
namespace Go.Proofs.YtceicbncnhmkoaaDoor
open Go.RowKit Go

/-- The letters of a mask's bits from j on. -/
def bitsL (m : Nat) : Nat → List UInt8
  | 0 => (if bitB m 0 = true then [65] else []) ++ (if bitB m 1 = true then [66] else []) ++ (if bitB m 2 = true then [67] else [])
  | 1 => (if bitB m 1 = true then [66] else []) ++ (if bitB m 2 = true then [67] else [])
  | 2 => (if bitB m 2 = true then [67] else [])
  | _ => []
theorem bits_letters : ∀ k : Fin 17, bitsL (fmask k.val) 0 = (ltrs k.val).data.toList := by decide +kernel
/-- The letter of field j. -/
def ltr (j : Nat) : UInt8 := if j = 0 then 65 else if j = 1 then 66 else 67
theorem bitsL_yes {m j : Nat} (hj : j < 3) (h : bitB m j = true) : bitsL m j = ltr j :: bitsL m (j + 1) := by
  rcases (by omega : j = 0 ∨ j = 1 ∨ j = 2) with rfl | rfl | rfl <;> simp [bitsL, h, ltr]
theorem bitsL_no {m j : Nat} (hj : j < 3) (h : bitB m j = false) : bitsL m j = bitsL m (j + 1) := by
  rcases (by omega : j = 0 ∨ j = 1 ∨ j = 2) with rfl | rfl | rfl <;> simp [bitsL, h]
theorem putL_at {j : Nat} (hj : j < 3) (n : Int) (t : T3) (k : Nat) : nthF (putL (ltr j) n t).1 (putL (ltr j) n t).2.1 (putL (ltr j) n t).2.2 k = if k = j ∨ (2 ≤ k ∧ j = 2) then n else nthF t.1 t.2.1 t.2.2 k := by
  rcases (by omega : j = 0 ∨ j = 1 ∨ j = 2) with rfl | rfl | rfl
  · match k with
    | 0 => simp [putL, ltr, nthF]
    | 1 => simp [putL, ltr, nthF]
    | k + 2 => simp [putL, ltr, nthF]
  · match k with
    | 0 => simp [putL, ltr, nthF]
    | 1 => simp [putL, ltr, nthF]
    | k + 2 => simp [putL, ltr, nthF]
  · match k with
    | 0 => simp [putL, ltr, nthF]
    | 1 => simp [putL, ltr, nthF]
    | k + 2 => simp [putL, ltr, nthF]
theorem Row3.stored {w : World} {g : Nat} {t : T3} (h : Row3 w g t.1 t.2.1 t.2.2) {j : Nat} (hj : j < 3) (n : Int) : Row3 (w.setCell ⟨g, j, none⟩ (.int .i64 n)) g (putL (ltr j) n t).1 (putL (ltr j) n t).2.1 (putL (ltr j) n t).2.2 := by
  unfold Row3 at *
  rw [cells_stored h j]
  rcases (by omega : j = 0 ∨ j = 1 ∨ j = 2) with rfl | rfl | rfl <;> simp [putL, ltr]

theorem bit_test0 (m j : Nat) (hm : m ≤ 7) (hj : j < 3) : (bits .and .i64 ((m : Int) / 2 ^ j) 1 == 0) = !bitB m j := by
  have h : ∀ (m : Fin 8) (j : Fin 3), (bits .and .i64 ((m.val : Int) / 2 ^ j.val) 1 == 0) = !bitB m.val j.val := by decide +kernel
  exact h ⟨m, by omega⟩ ⟨j, hj⟩
theorem Row3.frozen {w : World} {g : Nat} {a b c : Int} (h : Row3 w g a b c) (j : Nat) : w.frozen? ⟨g, j, none⟩ = false := by unfold Row3 at h; simp [World.frozen?, h]
theorem Row3.lt {w : World} {g : Nat} {a b c : Int} (h : Row3 w g a b c) : g < w.heap.size := lt_of_block h
theorem ix_next {x : ByteArray} {j : Nat} (hj : j < 17) (hne : x ≠ opN j) : ixFrom x (j + 1) (17 - (j + 1)) = ixFrom x j (17 - j) := by
  rw [show 17 - j = (17 - (j + 1)) + 1 from by omega]
  show _ = if x == opN j then some j else ixFrom x (j + 1) (17 - (j + 1))
  rw [if_neg (fun h => hne ((MapKept.bytes_beq _ _).1 h))]
theorem ix_here {x : ByteArray} {j : Nat} (hj : j < 17) (he : x = opN j) : ixFrom x j (17 - j) = some j := by
  rw [show 17 - j = (17 - (j + 1)) + 1 from by omega]
  show (if x == opN j then some j else ixFrom x (j + 1) (17 - (j + 1))) = _
  rw [if_pos ((MapKept.bytes_beq _ _).2 he)]
theorem fill_rest {xs : List ByteArray} {n : Nat} (t : T3) (h : n < xs.length) : fillL [] (xs.drop n) t = none := by
  rw [drop_at xs n h]; rfl

theorem words_all_row {w : World} {g : Nat} {xs : List ByteArray} (h : ∀ (j : Nat) y, xs[j]? = some y → w.cell? ⟨g, 0 + j, none⟩ = some (.string y)) (hg : g < w.heap.size) : WordRow w (some ⟨g, 0, none⟩) xs := fun j hj =>
  ⟨g, 0, rfl, hg, h j xs[j] (List.getElem?_eq_getElem hj)⟩

set_option maxRecDepth 100000 in
set_option maxHeartbeats 2000000 in
theorem sParse_cons (s : ByteArray) (w : World) (x : ByteArray) (xs : List ByteArray) (hxl : xs.length ≤ 100) (hf : fieldsOf s = some (x :: xs)) : Calls Tryd.prog 17 #[.string s] w (fun e w' => e = .returned (parV (parseW (x :: xs))) ∧ Below w.heap.size w w') := by
  have h1 := fun W => splitS_any s W
  unfold SplitSaid at h1
  rw [hf] at h1
  simp only [Option.isSome_some, Option.getD_some] at h1
  replace h1 := Lib.hid h1
  have HRes : Hid (parseW (x :: xs) = parseW (x :: xs)) := rfl
  generalize hres : parseW (x :: xs) = res at *
  have HRS := Lib.hid hres
  clear hres HRes hf
  go_enter Tryd.func17, Tryd.ntmps17
  go_wp2_with fail
  refine (h1.out _).mono ?_
  rintro e w1 ⟨v, rfl, t1, b1⟩
  obtain ⟨g, cap, rfl, hcells, hg, _⟩ := t1.open_ (by simp)
  have WR := Lib.hid (words_all_row hcells hg)
  have K1 := Lib.hid ((Blk.new w (insC 0 0 0 0) _ rfl).grown (grown_below b1 none) (by simp))
  have B1 := Lib.hid ((below1 w _).trans (b1.mono (by simp)))
  clear t1 b1 hcells h1
  simp only [List.length_cons]
  have hl0 : (((xs.length + 1 : Nat) : Int) == 0) = false := by simp; omega
  go_wp2_with fail
  go_loopw [6] (fun i wr => ∃ j : Nat, j ≤ 17 ∧ i = .int .i64 j ∧ Hid (ixFrom x j (17 - j) = formIx x) ∧ Below w1.heap.size w1 wr) (fun i _ => 17 - (intOf i).toNat)
  case atStart => exact ⟨0, by omega, rfl, rfl, Below.refl _ _⟩
  case round =>
    obtain ⟨j, hj, rfl, HX, hb⟩ := hrel
    by_cases hlt : j < 17
    · obtain ⟨g', o', he, hgl, hc⟩ := (WR.out.below hb) 0 (by simp)
      obtain ⟨rfl, rfl⟩ : g = g' ∧ 0 = o' := by injection he with e; injection e with e1 e2; exact ⟨e1, e2⟩
      simp only [Nat.add_zero, List.getElem_cons_zero] at hc
      clear he
      have hnm : nameOf (j : Int) = opN j := by unfold nameOf; rw [if_pos (inO_iff.2 (by omega)), Int.toNat_natCast]
      have h2 := fun W => sOpName_any (j : Int) W
      rw [hnm] at h2
      replace h2 := Lib.hid h2
      clear hnm
      by_cases hx : x = opN j
      · have hix := ix_here hlt hx
        rw [HX.out] at hix
        have HR := HRS.out
        rw [parseW_op hix] at HR
        have HRes := Lib.hid HR
        clear HR hix HX HRS
        have hsame : ((opN j).toList == x.toList) = true := by rw [hx]; exact beq_self_eq_true _
        have HX0 := Lib.hid hx
        clear hx
        have hmk : ∀ W, (Instr.makeSlice 69 (.int .i64 3) (.int .i64 3)).run Tryd.prog W = .ok (.slice (some ⟨W.heap.size, 0, none⟩) 3 3) (W.alloc (.cells #[.int .i64 0, .int .i64 0, .int .i64 0] 3)) := fun _ => by kernel_rfl
        have h3 := fun W => sMask_any j hlt W
        have HBL := Lib.hid (bits_letters ⟨j, hlt⟩)
        have hml := fmask_le hlt
        generalize fmask j = m at *
        replace h3 := Lib.hid h3
        go_wp2_with fail
        go_region_held3 (fun w' => w'.cell? ⟨g, 0, none⟩ = some (.string x)) (first | go_keep | (rw [hb1.cell (by simp; omega)]; assumption)) ((first | (go_at_call 44; refine (h2.out _).mono ?_; rintro e w2 ⟨rfl, hb1⟩)))
        have hb2 : Below wr.heap.size wr w2 := ⟨hb1.os, hb1.tape, hb1.output, hb1.size, hb1.block⟩
        have B2 := Lib.hid (hb.trans (hb2.mono hb.size))
        clear hb1 hb2 hc
        go_wp2_with fail
        have hR0 : Row3 (w2.alloc (.cells #[.int .i64 0, .int .i64 0, .int .i64 0] 3)) w2.heap.size 0 0 0 := heap_alloc_new w2 _
        go_loopw [8, 9] (fun n q wr => ∃ (nx q' : Nat) (t : T3), 1 ≤ nx ∧ nx ≤ xs.length + 1 ∧ q' ≤ 3 ∧ n = .int .i64 nx ∧ q = .int .i64 q' ∧ Hid (fillL (bitsL m q') (xs.drop (nx - 1)) t = fillL (ltrs j).data.toList xs (0, 0, 0)) ∧ Row3 wr w2.heap.size t.1 t.2.1 t.2.2 ∧ Below w2.heap.size w2 wr) (fun _ q _ => 3 - (intOf q).toNat)
        case atStart => exact ⟨1, 0, (0, 0, 0), Nat.le_refl _, by omega, by omega, rfl, rfl, by rw [HBL.out]; rfl, hR0, (Below.refl _ _).alloc (Nat.le_refl _) _⟩
        case round =>
          obtain ⟨nx, q, t, hn1, hn2, hq, rfl, rfl, HX1, hr3, hbi⟩ := hrel
          clear hR0 hmk
          have R3 := Lib.hid hr3
          have BI := Lib.hid hbi
          have hlb := hr3.lt
          by_cases hq3 : q < 3
          · have hbt := bit_test0 m q hml hq3
            cases hbit : bitB m q with
            | false =>
              rw [hbit, Bool.not_false] at hbt
              have hst := bitsL_no hq3 hbit
              have HST := Lib.hid (hst ▸ HX1.out)
              clear hst hbit hr3 hbi
              go_wp2_with fail
              refine (h3.out _).mono ?_
              rintro e w4 ⟨rfl, rfl⟩
              go_wp2_with fail
              go_roundw
              case rel => exact ⟨nx, q + 1, t, hn1, hn2, hq3, rfl, by go_num, HST.out, R3.out, BI.out⟩
              case measure => simp [intOf]; omega
            | true =>
              rw [hbit, Bool.not_true] at hbt
              have hst := HX1.out
              rw [bitsL_yes hq3 hbit] at hst
              by_cases hnx : nx ≤ xs.length
              · have hd0 : decide (((xs.length : Int) + 1) ≤ (nx : Int)) = false := by simp; omega
                obtain ⟨g', o', he, hgl2, hc⟩ := (WR.out.below (B2.out.trans (BI.out.mono B2.out.size))) nx (by simp; omega)
                obtain ⟨rfl, rfl⟩ : g = g' ∧ 0 = o' := by injection he with e; injection e with e1 e2; exact ⟨e1, e2⟩
                have hxe : (x :: xs)[nx]'(by simp; omega) = xs[nx - 1]'(by omega) := by rw [List.getElem_cons, dif_neg (by omega)]
                rw [hxe, Nat.zero_add] at hc
                rw [drop_at xs (nx - 1) (by omega), show nx - 1 + 1 = nx from by omega] at hst
                simp only [fillL] at hst
                clear he hxe
                generalize xs[nx - 1]'(by omega) = y at *
                have HP := fun W => puS_any y W
                have hcl := hr3.cell q hq3
                cases hpu : puOf y.data.toList with
                | none =>
                  rw [hpu] at HP hst
                  simp only [puAns] at HP hst
                  replace HP := Lib.hid HP
                  have HR := HRes.out
                  rw [← hst] at HR
                  simp only at HR
                  subst HR
                  clear hst hbit hr3 hbi HX1 hpu hcl
                  go_wp2_with fail
                  refine (h3.out _).mono ?_
                  rintro e w4 ⟨rfl, rfl⟩
                  go_wp2_with fail
                  refine (HP.out _).mono ?_
                  rintro e w5 ⟨rfl, b5⟩
                  have hb4 := (B2.out.trans (BI.out.mono B2.out.size)).trans (b5.mono (Nat.le_trans B2.out.size BI.out.size))
                  have K4 := Lib.hid (K1.out.below hb4)
                  have B4 := Lib.hid (B1.out.trans (hb4.mono B1.out.size))
                  clear b5 hb4
                  go_wp2_with (refine wpList_store_row rfl 32 _ _ rfl w.heap.size (insC 0 0 0 0) rfl rfl 32 _ K4.out (by kernel_rfl) rfl (insC_one _ _ _ _) ?_)
                  try rw [Exit.noGoto_ret]
                  obtain ⟨rK, rB⟩ := par_end 0 0 0 0 K4.out B4.out
                  have rC := rK.cell
                  exact bodyPost_ret (v := .tuple #[.agg (insC 0 0 0 0), .bool false]) (by simp [results, Tryd.results17, go_sem, rC]) rfl ⟨rfl, rB⟩
                | some v =>
                  rw [hpu] at HP hst
                  simp only [puAns] at HP hst
                  replace HP := Lib.hid HP
                  have HST := Lib.hid hst
                  clear hst hbit hr3 hbi HX1 hpu hcl
                  go_wp2_with fail
                  refine (h3.out _).mono ?_
                  rintro e w4 ⟨rfl, rfl⟩
                  go_wp2_with fail
                  refine (HP.out _).mono ?_
                  rintro e w5 ⟨rfl, b5⟩
                  have R5 := Lib.hid (R3.out.below b5)
                  have BI5 := Lib.hid (BI.out.trans (b5.mono BI.out.size))
                  have c5 := R5.out.cell q hq3
                  have f5 := R5.out.frozen q
                  have R6 := Lib.hid (R5.out.stored hq3 (v : Nat))
                  have BI6 := Lib.hid (BI5.out.grown (grownBy_setCell w5 ⟨w2.heap.size, q, none⟩ (.int .i64 (v : Nat))) BI5.out.size (fun k e => by cases e; exact Nat.le_refl _))
                  have hwr : IntKind.i64.wrap ((nx : Int) + 1) = (nx : Int) + 1 := IntWalk.i64_in _ (by omega)
                  clear b5
                  go_wp2_with fail
                  go_roundw
                  case rel => exact ⟨nx + 1, q + 1, _, by omega, by omega, hq3, by go_num, by go_num, HST.out, R6.out, BI6.out⟩
                  case measure => simp [intOf]; omega
              · have hd0 : decide (((xs.length : Int) + 1) ≤ (nx : Int)) = true := by simp; omega
                rw [List.drop_of_length_le (by omega)] at hst
                have HR := HRes.out
                rw [← hst] at HR
                simp only [fillL] at HR
                subst HR
                have hb4 := B2.out.trans (BI.out.mono B2.out.size)
                have K4 := Lib.hid (K1.out.below hb4)
                have B4 := Lib.hid (B1.out.trans (hb4.mono B1.out.size))
                clear hst hbit hr3 hbi HX1 hb4
                go_wp2_with fail
                refine (h3.out _).mono ?_
                rintro e w4 ⟨rfl, rfl⟩
                go_wp2_with (refine wpList_store_row rfl 32 _ _ rfl w.heap.size (insC 0 0 0 0) rfl rfl 32 _ K4.out (by kernel_rfl) rfl (insC_one _ _ _ _) ?_)
                try rw [Exit.noGoto_ret]
                obtain ⟨rK, rB⟩ := par_end 0 0 0 0 K4.out B4.out
                have rC := rK.cell
                exact bodyPost_ret (v := .tuple #[.agg (insC 0 0 0 0), .bool false]) (by simp [results, Tryd.results17, go_sem, rC]) rfl ⟨rfl, rB⟩
          · obtain rfl : q = 3 := by omega
            obtain ⟨a, b, c⟩ := t
            have c0 := hr3.cell 0 (by omega)
            have c1 := hr3.cell 1 (by omega)
            have c2 := hr3.cell 2 (by omega)
            simp only [nthF] at c0 c1 c2
            have hbw := B2.out.trans (BI.out.mono B2.out.size)
            have KW := Lib.hid (K1.out.below hbw)
            have BW := Lib.hid (B1.out.trans (hbw.mono B1.out.size))
            clear hr3 hbi hbw
            go_wp2_with fail
            go_region
            obtain ⟨wy, hwy⟩ : ∃ wy, wy = (wr.alloc (.cells (insC j a b c) 32)).drew := ⟨_, rfl⟩
            have IY : Blk wy wr.heap.size (insC j a b c) := by rw [hwy]; exact Blk.new wr _ _ rfl
            have KY := Lib.hid (show Blk wy w.heap.size (insC 0 0 0 0) by rw [hwy]; exact KW.out.alloc _)
            have BY := Lib.hid (show Below w.heap.size w wy by rw [hwy]; have h0 := BW.out.alloc BW.out.size (.cells (insC j a b c) 32); exact ⟨h0.os, h0.tape, h0.output, h0.size, h0.block⟩)
            rw [← hwy]
            have HIY := Lib.hid IY
            have iy := IY.cell
            have hfx := HX1.out
            have HR := HRes.out
            rw [← hfx] at HR
            clear hwy IY c0 c1 c2 hfx
            by_cases hnx : nx = xs.length + 1
            · have hne : ((nx : Int) != (xs.length : Int) + 1) = false := by rw [hnx]; simp
              rw [List.drop_of_length_le (by omega)] at HR
              simp only [bitsL, fillL, okIns] at HR
              have h5 := fun W => sInsOk_any (j : Int) a b c 32 W
              cases hok : insOk (j : Int) a b c 32 with
              | true =>
                rw [hok] at h5 HR
                rw [if_pos rfl] at HR
                subst HR
                replace h5 := Lib.hid h5
                clear hok
                go_wp2_with fail
                refine (h5.out _).mono ?_
                rintro e w4 ⟨rfl, b4⟩
                have K4 := Lib.hid (KY.out.below b4)
                have B4 := Lib.hid (BY.out.trans (b4.mono BY.out.size))
                have i4 := (HIY.out.below b4).cell
                clear b4 iy
                go_wp2_with (refine wpList_store_row rfl 32 _ _ rfl w.heap.size (insC (j : Int) a b c) rfl rfl 32 _ K4.out (by kernel_rfl) rfl (insC_one _ _ _ _) ?_)
                try rw [Exit.noGoto_ret]
                obtain ⟨rK, rB⟩ := par_end (j : Int) a b c K4.out B4.out
                have rC := rK.cell
                exact bodyPost_ret (v := .tuple #[.agg (insC (j : Int) a b c), .bool true]) (by simp [results, Tryd.results17, go_sem, rC]) rfl ⟨rfl, rB⟩
              | false =>
                rw [hok] at h5 HR
                rw [if_neg (by simp)] at HR
                subst HR
                replace h5 := Lib.hid h5
                clear hok
                go_wp2_with fail
                refine (h5.out _).mono ?_
                rintro e w4 ⟨rfl, b4⟩
                have K4 := Lib.hid (KY.out.below b4)
                have B4 := Lib.hid (BY.out.trans (b4.mono BY.out.size))
                clear b4 iy
                go_wp2_with (refine wpList_store_row rfl 32 _ _ rfl w.heap.size (insC 0 0 0 0) rfl rfl 32 _ K4.out (by kernel_rfl) rfl (insC_one _ _ _ _) ?_)
                try rw [Exit.noGoto_ret]
                obtain ⟨rK, rB⟩ := par_end 0 0 0 0 K4.out B4.out
                have rC := rK.cell
                exact bodyPost_ret (v := .tuple #[.agg (insC 0 0 0 0), .bool false]) (by simp [results, Tryd.results17, go_sem, rC]) rfl ⟨rfl, rB⟩
            · have hne : ((nx : Int) != (xs.length : Int) + 1) = true := by rw [bne_iff_ne]; omega
              rw [show bitsL m 3 = [] from rfl, fill_rest (a, b, c) (by omega)] at HR
              simp only at HR
              subst HR
              have K4 := KY
              have B4 := BY
              go_wp2_with (refine wpList_store_row rfl 32 _ _ rfl w.heap.size (insC 0 0 0 0) rfl rfl 32 _ K4.out (by kernel_rfl) rfl (insC_one _ _ _ _) ?_)
              try rw [Exit.noGoto_ret]
              obtain ⟨rK, rB⟩ := par_end 0 0 0 0 K4.out B4.out
              have rC := rK.cell
              exact bodyPost_ret (v := .tuple #[.agg (insC 0 0 0 0), .bool false]) (by simp [results, Tryd.results17, go_sem, rC]) rfl ⟨rfl, rB⟩
      · have hdif : ((opN j).toList == x.toList) = false := by rw [Lib.toList_data, Lib.toList_data, beq_eq_false_iff_ne]; exact fun h => hx (bytes_ext h).symm
        have HX2 := Lib.hid ((ix_next hlt hx).trans HX.out)
        clear HX
        go_wp2_with fail
        go_region_held3 (fun w' => w'.cell? ⟨g, 0, none⟩ = some (.string x)) (first | go_keep | (rw [hb1.cell (by simp; omega)]; assumption)) ((first | (go_at_call 44; refine (h2.out _).mono ?_; rintro e w2 ⟨rfl, hb1⟩)))
        have hb2 : Below wr.heap.size wr w2 := ⟨hb1.os, hb1.tape, hb1.output, hb1.size, hb1.block⟩
        have B2 := Lib.hid (hb.trans (hb2.mono hb.size))
        clear hb1 hb2 hc
        go_wp2_with fail
        go_roundw
        case rel => (repeat apply Exists.intro); exact ⟨⟨j + 1, hlt, by go_num, HX2.out, B2.out⟩, rfl⟩
        case measure => simp [intOf]; omega
    · obtain rfl : j = 17 := by omega
      have HR := HRS.out
      rw [parseW_none (by rw [← HX.out]; rfl)] at HR
      subst HR
      have K4 := Lib.hid (K1.out.below hb)
      have B4 := Lib.hid (B1.out.trans (hb.mono B1.out.size))
      go_wp2_with (refine wpList_store_row rfl 32 _ _ rfl w.heap.size (insC 0 0 0 0) rfl rfl 32 _ K4.out (by kernel_rfl) rfl (insC_one _ _ _ _) ?_)
      obtain ⟨rK, rB⟩ := par_end 0 0 0 0 K4.out B4.out
      have rC := rK.cell
      exact bodyPost_ret (v := .tuple #[.agg (insC 0 0 0 0), .bool false]) (by simp [results, Tryd.results17, go_sem, rC]) rfl ⟨rfl, rB⟩

set_option maxRecDepth 100000 in
set_option maxHeartbeats 1000000 in
theorem sParse_none (s : ByteArray) (w : World) (hf : fieldsOf s = none ∨ fieldsOf s = some []) : Calls Tryd.prog 17 #[.string s] w (fun e w' => e = .returned (parV none) ∧ Below w.heap.size w w') := by
  have h1 := fun W => splitS_any s W
  unfold SplitSaid at h1
  rcases hf with hf | hf
  all_goals
    rw [hf] at h1
    simp only [Option.isSome_some, Option.isSome_none, Option.getD_some, Option.getD_none] at h1
    replace h1 := Lib.hid h1
    clear hf
    go_enter Tryd.func17, Tryd.ntmps17
    go_wp2_with fail
    refine (h1.out _).mono ?_
    rintro e w1 ⟨v, rfl, t1, b1⟩
    obtain ⟨g, cap, rfl⟩ := t1.form
    have K4 := Lib.hid ((Blk.new w (insC 0 0 0 0) _ rfl).grown (grown_below b1 none) (by simp))
    have B4 := Lib.hid ((below1 w _).trans (b1.mono (by simp)))
    clear t1 b1
    simp only [List.length_nil]
    go_wp2_with (refine wpList_store_row rfl 32 _ _ rfl w.heap.size (insC 0 0 0 0) rfl rfl 32 _ K4.out (by kernel_rfl) rfl (insC_one _ _ _ _) ?_)
    try rw [Exit.noGoto_ret]
    obtain ⟨rK, rB⟩ := par_end 0 0 0 0 K4.out B4.out
    have rC := rK.cell
    exact bodyPost_ret (v := .tuple #[.agg (insC 0 0 0 0), .bool false]) (by simp [results, Tryd.results17, go_sem, rC]) rfl ⟨rfl, rB⟩

theorem sParse_any (s : ByteArray) (w : World) : Calls Tryd.prog 17 #[.string s] w (fun e w' => e = .returned (parV (parseL s)) ∧ Below w.heap.size w w') := by
  unfold parseL
  cases hf : fieldsOf s with
  | none => exact sParse_none s w (.inl hf)
  | some ws =>
    cases ws with
    | nil => exact sParse_none s w (.inr hf)
    | cons x xs => exact sParse_cons s w x xs (by have := (fields_good hf).2; rw [List.length_cons] at this; omega) hf

end Go.Proofs.YtceicbncnhmkoaaDoor
