/- Post-dominators: the model's FirstAfter and MeetsAt. -/
import Derived.Test.YtbbeafablmnjnaaAfterT
namespace Go.Proofs.Ytbbeafablmnjnaa
open Go.RowKit Go

/-- A row of numbers that the call owns may be read. -/
theorem Own.readA {B : Nat} {w : World} {a : Option Addr} {n cap : Nat} {xs : List Int} (h : Own B w (.slice a n cap) xs) (hx : ∀ x ∈ xs, i64R x) : Nums w.heap.size w a xs := h.nums hx (Nat.le_refl _)

theorem exit_valid {p : List I4} {R : List Int → Nat → Bool} {k : Int} (h : exitQ p R k = true) : progOk p = true := (nodeOk_iff.1 (Bool.and_eq_true_iff.1 h).1).1
theorem firstL_nil (p : List I4) (RA : List Int → Int → Nat → Bool) : firstL p RA [] = -1 := rfl
theorem afters_valid {p : List I4} {R : List Int → Nat → Bool} {RA : List Int → Int → Nat → Bool} {a : Int} (h : aftersQ p R RA a ≠ []) : progOk p = true := by
  unfold aftersQ at h
  split at h
  · rename_i hx; exact exit_valid hx
  · exact absurd rfl h

set_option maxRecDepth 100000 in
set_option maxHeartbeats 400000 in
theorem sFirstNil_any (w : World) (a : Option Addr) (n cap : Nat) (a2 : Option Addr) (cap2 : Nat) :
    Calls Try.prog 51 #[.slice a n cap, .slice a2 0 cap2] w (Said (.int .i64 (-1)) w) := by
  go_enter Try.func51, Try.ntmps51
  go_wp2_with fail
  refine wp_loop_rounds 1 ?_; rw [rounds_succ]
  go_wp2_with fail
  go_ret
  exact ⟨rfl, Below.refl _ _⟩

/-- l08First of nodes, whatever the program is. -/
theorem sFirstL_any (B : Nat) (w : World) (a : Option Addr) (p : List I4) (RA : List Int → Int → Nat → Bool) (hRA : AllAvoid p RA) (cap : Nat) (h : Nums B w a (flat p)) (hB : B ≤ w.heap.size) (B2 : Nat) (a2 : Option Addr) (xs : List Int) (cap2 : Nat) (hv : xs ≠ [] → progOk p = true) (hl2 : xs.length ≤ 1000) (hx : ∀ x ∈ xs, 0 ≤ x ∧ x ≤ p.length) (h2 : Nums B2 w a2 xs) (hB2 : B2 ≤ w.heap.size) :
    Calls Try.prog 51 #[.slice a p.length cap, .slice a2 xs.length cap2] w (Said (.int .i64 (firstL p RA xs)) w) := by
  cases xs with
  | nil => exact sFirstNil_any w a p.length cap a2 cap2
  | cons x xs => exact sFirst_any B w a p RA hRA cap (hv (by simp)) h hB B2 a2 (x :: xs) cap2 hl2 hx h2 hB2

theorem others_mem {xs : List Int} {n x : Int} : x ∈ othersL xs n ↔ x ∈ xs ∧ x ≠ n := by
  unfold othersL
  rw [List.mem_filter, bne_iff_ne]
theorem others_le (xs : List Int) (n : Int) : (othersL xs n).length ≤ xs.length := List.length_filter_le _ _
theorem both_mem {xs ys : List Int} {x : Int} : x ∈ bothL xs ys ↔ x ∈ xs ∧ x ∈ ys := by
  unfold bothL inL
  rw [List.mem_filter, List.contains_iff_mem]
theorem rng_small {n : Nat} {xs : List Int} (hn : n ≤ 10000000) (h : ∀ m ∈ xs, 0 ≤ m ∧ m ≤ n) : ∀ m ∈ xs, i64R m := rng_i64 hn h

set_option maxRecDepth 100000 in
set_option maxHeartbeats 1000000 in
theorem sFirstAfter_any (B : Nat) (w : World) (a : Option Addr) (p : List I4) (R : List Int → Nat → Bool) (hR : AllReach p R) (RA : List Int → Int → Nat → Bool) (hRA : AllAvoid p RA) (cap : Nat) (k : Int) (hl : p.length ≤ 10000000) (h : Nums B w a (flat p)) (hB : B ≤ w.heap.size) :
    Calls Try.prog 30 #[.slice a p.length cap, .int .i64 k] w (Said (.int .i64 (firstQ p R RA k)) w) := by
  have h1 := Lib.hid (sAfters_any B w a p R hR RA hRA cap k hl h hB)
  have HH := Lib.hid h
  have HRA := Lib.hid hRA
  obtain ⟨hxr, hxl⟩ := aftersQ_rng (p := p) (R := R) (RA := RA) (a := k)
  have hv := afters_valid (p := p) (R := R) (RA := RA) (a := k)
  have e : firstQ p R RA k = firstL p RA (othersL (aftersQ p R RA k) k) := rfl
  rw [e]
  generalize aftersQ p R RA k = xs at *
  have HXR := Lib.hid hxr
  have HV := Lib.hid hv
  clear h hR hRA hxr hv e
  go_enter Try.func30, Try.ntmps30
  go_wp2_with fail
  refine h1.out.mono ?_
  rintro e w1 ⟨v, rfl, o1, b1⟩
  have s1 := b1.size
  obtain ⟨a1, c1, rfl⟩ := o1.form
  have HO1 := Lib.hid (o1.readA (rng_small hl HXR.out))
  have B1 := Lib.hid b1
  clear o1 b1
  go_wp2_with fail
  refine (sOthers_any _ w1 a1 xs c1 k (by omega) HO1.out (Nat.le_refl _)).mono ?_
  rintro e w2 ⟨v2, rfl, o2, b2⟩
  have s2 := b2.size
  have hl2 := others_le xs k
  have HYR := Lib.hid (fun x (hx : x ∈ othersL xs k) => HXR.out x (others_mem.1 hx).1)
  have HYV := Lib.hid (fun (hn : othersL xs k ≠ []) => HV.out fun e => hn (by rw [e]; rfl))
  generalize othersL xs k = ys at *
  obtain ⟨a2, c2, rfl⟩ := o2.form
  have HO2 := Lib.hid (o2.readA (rng_small hl HYR.out))
  have B2 := Lib.hid (B1.out.trans (b2.mono s1))
  clear o2 b2
  go_wp2_with fail
  refine (sFirstL_any B w2 a p RA HRA.out cap (HH.out.kept (B2.out.mono hB)) (Nat.le_trans hB B2.out.size) w2.heap.size a2 ys c2 HYV.out (by omega) HYR.out HO2.out (Nat.le_refl _)).mono ?_
  rintro e w3 ⟨rfl, b3⟩
  have B3 := Lib.hid (B2.out.trans (b3.mono B2.out.size))
  clear b3
  go_wp2_with fail
  go_ret
  exact ⟨rfl, B3.out⟩

set_option maxRecDepth 100000 in
set_option maxHeartbeats 2000000 in
theorem sMeets_any (B : Nat) (w : World) (a : Option Addr) (p : List I4) (R : List Int → Nat → Bool) (hR : AllReach p R) (RA : List Int → Int → Nat → Bool) (hRA : AllAvoid p RA) (cap : Nat) (k m : Int) (hl : p.length ≤ 10000000) (h : Nums B w a (flat p)) (hB : B ≤ w.heap.size) :
    Calls Try.prog 31 #[.slice a p.length cap, .int .i64 k, .int .i64 m] w (Said (.int .i64 (meetsQ p R RA k m)) w) := by
  obtain ⟨i0, hi0, hz0, hz1, hz2⟩ := info_parts info_int
  have h1 := Lib.hid (fun W k h hB => sAfters_any B W a p R hR RA hRA cap k hl h hB)
  have HH := Lib.hid h
  have HRA := Lib.hid hRA
  obtain ⟨hxr, hxl⟩ := aftersQ_rng (p := p) (R := R) (RA := RA) (a := k)
  obtain ⟨hyr, hyl⟩ := aftersQ_rng (p := p) (R := R) (RA := RA) (a := m)
  have hv := afters_valid (p := p) (R := R) (RA := RA) (a := k)
  have e : meetsQ p R RA k m = firstL p RA (bothL (aftersQ p R RA k) (aftersQ p R RA m)) := rfl
  rw [e]
  have g1 := Lib.hid (fun W h hB => h1.out W k h hB)
  have g2 := Lib.hid (fun W h hB => h1.out W m h hB)
  clear h1
  generalize aftersQ p R RA k = xs at *
  generalize aftersQ p R RA m = ys at *
  have HXR := Lib.hid hxr
  have HYR := Lib.hid hyr
  have HV := Lib.hid hv
  clear h hR hRA hxr hyr hv e
  go_enter Try.func31, Try.ntmps31
  go_wp2_with fail
  refine (g1.out _ HH.out hB).mono ?_
  rintro e w1 ⟨v, rfl, o1, b1⟩
  have s1 := b1.size
  obtain ⟨a1, c1, rfl⟩ := o1.form
  have HO1 := Lib.hid (o1.readA (rng_small hl HXR.out))
  have B1 := Lib.hid b1
  clear o1 b1
  go_wp2_with fail
  refine (g2.out _ (HH.out.kept (B1.out.mono hB)) (Nat.le_trans hB B1.out.size)).mono ?_
  rintro e w2 ⟨v2, rfl, o2, b2⟩
  have s2 := b2.size
  obtain ⟨a2, c2, rfl⟩ := o2.form
  have HO2 := Lib.hid (o2.readA (rng_small hl HYR.out))
  have HX2 := Lib.hid (HO1.out.kept b2)
  have B2 := Lib.hid (B1.out.trans (b2.mono s1))
  clear o2 b2
  go_wp2_with fail
  go_loopw [9, 10] (fun v i wr => ∃ j : Nat, j ≤ xs.length ∧ i = .int .i64 j ∧ Own w2.heap.size wr v ((xs.take j).filter fun x => inL ys x) ∧ Below w2.heap.size w2 wr) (fun _ i _ => xs.length - (intOf i).toNat)
  case atStart => exact ⟨0, Nat.zero_le _, rfl, Own.made w2 [] rfl (Nat.le_refl _) rfl (by unfold maxLen; simp), below1 _ _⟩
  case round =>
    obtain ⟨j, hj, rfl, hown, hb⟩ := hrel
    have hsz := hb.size
    have HO := Lib.hid hown
    have HB := Lib.hid hb
    by_cases hlt : j < xs.length
    · obtain ⟨g, off, rfl, hg, hc⟩ := (HX2.out.kept (hb.mono s2)).2 j hlt
      have hgl : g < wr.heap.size := by omega
      have Hyes := Lib.hid (filterT_yes (f := fun x => inL ys x) hlt)
      have Hno := Lib.hid (filterT_no (f := fun x => inL ys x) hlt)
      have hle := filterT_le (fun x => inL ys x) xs j
      generalize xs[j] = x at *
      have h3 := sHas_any w2.heap.size wr a2 ys c2 x (by omega) (HO2.out.kept hb) hsz
      cases hx : inL ys x with
      | true =>
        rw [hx] at h3
        replace h3 := Lib.hid h3
        have HY := Lib.hid (Hyes.out hx)
        generalize (xs.take j).filter (fun x => inL ys x) = zs at *
        clear hown hb hx
        go_wp2_with fail
        refine h3.out.mono ?_
        rintro e w3 ⟨rfl, b3⟩
        have s3 := b3.size
        have hc3 : w3.cell? ⟨g, off + j, none⟩ = some (.int .i64 x) := by rw [b3.cell (p := ⟨g, off + j, none⟩) hgl]; exact hc
        have HB3 := Lib.hid (HB.out.trans (b3.mono hsz))
        have HO3 := Lib.hid (HO.out.below b3)
        have hg3 : g < w3.heap.size := by omega
        clear b3 hc
        go_wp2_with (at_builtin; refine wpList_append_own _ rfl _ _ 26 rfl w2.heap.size 3 i0 (.int .i64 0) 1 8 Try.underlying26 hi0 hz0 hz1 hz2 rfl (by decide) _ _ _ rfl (World.ownsRow.alloc HO3.out _) ⟨w3.heap.size, 0, none⟩ 1 1 [.int .i64 x] rfl rfl (cell_one_new _ _ _) (by simp [Value.oneCell']) (by unfold maxLen; omega) (by omega) (by simp; omega) ?_; intro v' w4 hown4 hgrow _)
        have HN := Lib.hid (own_snoc HO3.out HB3.out hown4 hgrow)
        clear hown4 hgrow
        go_roundw
        case rel => exact ⟨j + 1, hlt, by go_num, by rw [HY.out]; exact HN.out.1, HN.out.2⟩
        case measure => simp [intOf]; omega
      | false =>
        rw [hx] at h3
        replace h3 := Lib.hid h3
        have HY := Lib.hid (Hno.out hx)
        clear hown hb hx
        go_wp2_with fail
        refine h3.out.mono ?_
        rintro e w3 ⟨rfl, b3⟩
        have HB3 := Lib.hid (HB.out.trans (b3.mono hsz))
        have HO3 := Lib.hid (HO.out.below b3)
        clear b3
        go_wp2_with fail
        go_roundw
        case rel => exact ⟨j + 1, hlt, by go_num, by rw [HY.out]; exact HO3.out, HB3.out⟩
        case measure => simp [intOf]; omega
    · obtain rfl : j = xs.length := by omega
      rw [List.take_length] at HO
      have e : bothL xs ys = xs.filter fun x => inL ys x := rfl
      have hzl : (bothL xs ys).length ≤ xs.length := List.length_filter_le _ _
      have HZR := Lib.hid (fun x (hx : x ∈ bothL xs ys) => HXR.out x (both_mem.1 hx).1)
      have HZV := Lib.hid (fun (hn : bothL xs ys ≠ []) => HV.out fun e => hn (by rw [e]; rfl))
      rw [← e] at HO
      clear hown hb e
      generalize bothL xs ys = zs at *
      obtain ⟨a3, c3, rfl⟩ := HO.out.form
      have HO3 := Lib.hid (HO.out.readA (rng_small hl HZR.out))
      have B3 := Lib.hid (B2.out.trans (HB.out.mono (by omega)))
      go_wp2_with fail
      refine (sFirstL_any B wr a p RA HRA.out cap (HH.out.kept (B3.out.mono hB)) (Nat.le_trans hB B3.out.size) wr.heap.size a3 zs c3 HZV.out (by omega) HZR.out HO3.out (Nat.le_refl _)).mono ?_
      rintro e w4 ⟨rfl, b4⟩
      have B4 := Lib.hid (B3.out.trans (b4.mono B3.out.size))
      clear b4
      go_wp2_with fail
      go_ret
      exact ⟨rfl, B4.out⟩

end Go.Proofs.Ytbbeafablmnjnaa
