/- FnMasks: a mask is given by its lanes, and is divided by every other one. -/
import Derived.Test.YtkfolcmahbnenaaMaskRows
import Derived.Test.YtkfolcmahbnenaaDrawNums
import Derived.Test.YtkfolcmahbnenaaNumber
namespace Go.Proofs.Ytkfolcmahbnenaa
open Go.RowKit Go

def maskP (x : Int) : Prop := 0 ≤ x ∧ x ≤ 255

set_option maxHeartbeats 400000 in
theorem mask_any {base B : Nat} (w : World) (hc : Cur base w B) : Calls Try.prog 30 #[.pointer (some ⟨B, 0, none⟩)] w (Drew base B maskP w) := by
  go_enter Try.func30, Try.ntmps30
  go_wp2_with fail
  refine (below_any _ 256 (by omega) hc).mono ?_
  rintro e w1 ⟨x, ⟨hx0, _, hx1⟩, rfl, hc1, hg1⟩
  have hx1 := hx1 (by omega)
  go_wp2_with fail
  refine (below_any _ 256 (by omega) hc1).mono ?_
  rintro e w2 ⟨y, ⟨hy0, _, hy1⟩, rfl, hc2, hg2⟩
  have hy1 := hy1 (by omega)
  have hlt := hc2.lt
  have HM := Lib.hid (NumBlock.made w2 [255, 0, 1, 15, 170, x, y] 3)
  go_wp2_with fail
  refine (pickInt_any _ _ _ 7 (by rfl) (by omega) (by omega) (by omega) HM.out (hc2.alloc _)).mono ?_
  rintro e w3 ⟨z, hz, rfl, hc3, hg3⟩
  go_wp2_with fail
  go_ret
  refine ⟨z, ?_, rfl, hc3, grownBy_trans hg1 (grownBy_trans hg2 (grownBy_trans (World.grownBy_alloc _ _ _) hg3))⟩
  simp only [List.mem_cons, List.not_mem_nil, or_false] at hz
  unfold maskP
  omega

/-- A drawn mask. -/
theorem drawMask_any (w : World) (a : Option Addr) (len cap : Nat) (hl : len ≤ maxLen) (hb : Bytes w.heap.size w a len) :
    Calls Try.prog 11 #[.slice a len cap] w (fun e w' => ∃ x, maskP x ∧ e = .returned (.int .i64 x) ∧ Below w.heap.size w w') := by
  have HB := Lib.hid hb
  have HL := Lib.hid hl
  clear hb hl
  go_enter Try.func11, Try.ntmps11
  go_wp2_with fail
  refine (new_any _ a len cap HL.out HB.out).mono ?_
  rintro e w0 ⟨B, rfl, hc0, hb0⟩
  have hs0 := hb0.size
  have hB := hc0.1
  go_wp2_with fail
  refine (mask_any _ hc0).mono ?_
  rintro e w1 ⟨x, hx, rfl, hc1, hg1⟩
  go_wp2_with fail
  go_ret
  exact ⟨x, hx, rfl, hb0.trans (grownBy_below hg1 hs0 (fun k e => by cases e; exact hB))⟩

/-- Is v one of the numbers? -/
def inL (xs : List Int) (v : Int) : Bool := xs.contains v

theorem has_no {xs : List Int} {k : Nat} {v : Int} (hk : k < xs.length) (h : ∀ x ∈ xs.take k, (x == v) = false) (hx : (xs[k] == v) = false) : ∀ x ∈ xs.take (k + 1), (x == v) = false := by
  intro x hm
  rw [List.take_succ_eq_append_getElem hk, List.mem_append, List.mem_singleton] at hm
  rcases hm with hm | rfl
  · exact h x hm
  · exact hx
theorem has_yes {xs : List Int} {k : Nat} {v : Int} (hk : k < xs.length) (hx : (xs[k] == v) = true) : inL xs v = true := by
  unfold inL
  rw [List.contains_iff_mem, ← eq_of_beq hx]
  exact List.getElem_mem hk
theorem has_none {xs : List Int} {v : Int} (h : ∀ x ∈ xs.take xs.length, (x == v) = false) : inL xs v = false := by
  unfold inL
  rw [List.take_length] at h
  cases hc : xs.contains v with
  | false => rfl
  | true => have := h v (List.contains_iff_mem.1 hc); simp at this

set_option maxHeartbeats 400000 in
theorem has_any (B : Nat) (w : World) (a : Option Addr) (xs : List Int) (cap : Nat) (v : Int) (hl : xs.length ≤ 10000000) (h : Nums B w a xs) :
    Calls Try.prog 17 #[.slice a xs.length cap, .int .i64 v] w (fun e w' => e = .returned (.bool (inL xs v)) ∧ w = w') := by
  have HH := Lib.hid h
  clear h
  go_enter Try.func17, Try.ntmps17
  go_wp2_with fail
  go_loop [5] (fun i => ∃ k : Nat, k ≤ xs.length ∧ i = .int .i64 k ∧ ∀ x ∈ xs.take k, (x == v) = false) (fun i => xs.length - (intOf i).toNat)
  case atStart => exact ⟨0, Nat.zero_le _, rfl, by simp⟩
  case round =>
    obtain ⟨k, hk, rfl, hr⟩ := hrel
    have HR := Lib.hid hr
    clear hr
    by_cases hlt : k < xs.length
    · obtain ⟨g, off, rfl, _, hc⟩ := HH.out.2 k hlt
      have Hno := Lib.hid (has_no (v := v) hlt HR.out)
      have Hyes := Lib.hid (has_yes (v := v) hlt)
      generalize xs[k] = x at *
      cases hx : (x == v) with
      | true =>
        go_wp2_with fail
        go_ret
        exact ⟨ret_boolM (Hyes.out hx).symm, rfl⟩
      | false =>
        go_wp2_with fail
        go_round
        case rel => exact ⟨k + 1, hlt, by go_num, Hno.out hx⟩
        case measure => simp [intOf]; omega
    · obtain rfl : k = xs.length := by omega
      go_wp2_with fail
      go_ret
      exact ⟨ret_boolM (has_none HR.out).symm, rfl⟩

/-! ### The plain facts -/

theorem hasL_nat {a i : Nat} (ha : a ≤ 255) (hi : i < 8) : hasL (a : Int) (i : Int) = a.testBit i := by
  unfold hasL
  rw [isM_mk (by omega) (by omega), isL_mk (by omega) (by omega), Nat.testBit_eq_decide_div_mod_eq, Int.toNat_natCast]
  simp only [Bool.true_and]
  congr 1
  apply propext
  have : ((a : Int) / 2 ^ i % 2) = ((a / 2 ^ i % 2 : Nat) : Int) := by push_cast; rfl
  omega

theorem contains_lanes {m : Int} {k : Nat} (hk : k < 8) : inL (lanesOf m) (k : Int) = hasL m (k : Int) := by
  unfold inL
  rw [Bool.eq_iff_iff, List.contains_iff_mem]
  unfold lanesOf lanesTo
  rw [List.mem_map]
  constructor
  · rintro ⟨i, hi, he⟩
    have : i = k := by omega
    subst this
    exact (List.mem_filter.1 hi).2
  · intro h
    exact ⟨k, List.mem_filter.2 ⟨List.mem_range.2 hk, h⟩, rfl⟩

theorem filter_split {α : Type} (l : List α) (p q r : α → Bool) (h1 : ∀ x ∈ l, q x = (p x && q x)) (h2 : ∀ x ∈ l, r x = (p x && !q x)) : (l.filter q).length + (l.filter r).length = (l.filter p).length := by
  induction l with
  | nil => rfl
  | cons x l ih =>
    have := ih (fun y hy => h1 y (List.mem_cons_of_mem _ hy)) (fun y hy => h2 y (List.mem_cons_of_mem _ hy))
    have e1 := h1 x (List.mem_cons_self ..)
    have e2 := h2 x (List.mem_cons_self ..)
    simp only [List.filter_cons]
    cases hp : p x <;> cases hq : q x <;> simp [hp, hq] at e1 e2 <;> simp [e2] <;> omega

/-- Everything that the law asks of a mask m and a mask o. -/
theorem masks_plain {m o : Int} (hm : maskP m) (ho : maskP o) : ∃ a b : Int, splitA m o = a ∧ splitB m o = b ∧ maskP a ∧ maskP b ∧ a + b = m ∧
    (∀ k : Nat, k < 8 → (hasL a (k : Int) = true → hasL b (k : Int) = false)) ∧ cntL a + cntL b = ((lanesOf m).length : Int) ∧ 0 ≤ cntL a ∧ 0 ≤ cntL b ∧ cntL a ≤ 8 ∧ cntL b ≤ 8 := by
  obtain ⟨h0, h1⟩ := hm
  obtain ⟨k0, k1⟩ := ho
  have hM := isM_mk h0 h1
  have hO := isM_mk k0 k1
  have hs := split_sum hM hO
  refine ⟨_, _, rfl, rfl, ?_⟩
  unfold splitA splitB
  rw [if_pos ⟨hM, hO⟩, if_pos ⟨hM, hO⟩]
  obtain ⟨x, rfl⟩ := Int.eq_ofNat_of_zero_le h0
  obtain ⟨y, rfl⟩ := Int.eq_ofNat_of_zero_le k0
  have ha : x &&& y ≤ x := Nat.and_le_left
  have hb : x &&& (18446744073709551615 - y) ≤ x := Nat.and_le_left
  rw [andM (by omega) (by omega), andNotM (by omega) (by omega)] at hs ⊢
  have tb : ∀ k : Nat, k < 8 → (18446744073709551615 - y).testBit k = !y.testBit k := by
    intro k hk
    have e : 18446744073709551615 - y = 2 ^ 64 - (y + 1) := by omega
    rw [e, Nat.testBit_two_pow_sub_succ (by omega)]
    simp; omega
  have ta : ∀ k : Nat, k < 8 → hasL ((x &&& y : Nat) : Int) (k : Int) = (hasL (x : Int) (k : Int) && hasL (y : Int) (k : Int)) := by
    intro k hk
    rw [hasL_nat (by omega) hk, hasL_nat (by omega) hk, hasL_nat (by omega) hk, Nat.testBit_and]
  have tc : ∀ k : Nat, k < 8 → hasL ((x &&& (18446744073709551615 - y) : Nat) : Int) (k : Int) = (hasL (x : Int) (k : Int) && !hasL (y : Int) (k : Int)) := by
    intro k hk
    rw [hasL_nat (by omega) hk, hasL_nat (by omega) hk, hasL_nat (by omega) hk, Nat.testBit_and, tb k hk]
  have la := lanesTo_le ((x &&& y : Nat) : Int) 8
  have lb := lanesTo_le ((x &&& (18446744073709551615 - y) : Nat) : Int) 8
  have ca : cntL ((x &&& y : Nat) : Int) = ((lanesOf ((x &&& y : Nat) : Int)).length : Int) := by unfold cntL; rw [isM_mk (by omega) (by omega)]; rfl
  have cb : cntL ((x &&& (18446744073709551615 - y) : Nat) : Int) = ((lanesOf ((x &&& (18446744073709551615 - y) : Nat) : Int)).length : Int) := by unfold cntL; rw [isM_mk (by omega) (by omega)]; rfl
  refine ⟨⟨by omega, by omega⟩, ⟨by omega, by omega⟩, hs.1, ?_, ?_, ?_, ?_, ?_, ?_⟩
  · intro k hk h
    rw [ta k hk] at h
    rw [tc k hk]
    simp at h
    simp [h.2]
  · rw [ca, cb]
    have := filter_split (List.range 8) (fun i : Nat => hasL (x : Int) (i : Int)) (fun i : Nat => hasL ((x &&& y : Nat) : Int) (i : Int)) (fun i : Nat => hasL ((x &&& (18446744073709551615 - y) : Nat) : Int) (i : Int))
      (fun i hi => by rw [ta i (List.mem_range.1 hi)]; cases hasL (x : Int) (i : Int) <;> rfl)
      (fun i hi => by rw [tc i (List.mem_range.1 hi), ta i (List.mem_range.1 hi)]; cases hasL (x : Int) (i : Int) <;> cases hasL (y : Int) (i : Int) <;> rfl)
    unfold lanesOf lanesTo
    rw [List.length_map, List.length_map, List.length_map]
    omega
  · rw [ca]; omega
  · rw [cb]; omega
  · rw [ca]; unfold lanesOf; omega
  · rw [cb]; unfold lanesOf; omega


theorem lanes_rng2 {m : Int} : (lanesOf m).length ≤ 8 := lanesTo_le m 8

set_option maxHeartbeats 1000000 in
theorem fnMasks_walk (a : Option Addr) (len cap : Nat) (zs : List Int) (w : World) (hr : IsRow .u8 w a len cap zs) :
    Calls Try.prog 3 #[.slice a len cap] w fun e w' => e = .returned (.bool true) ∧ Below w.heap.size w w' := by
  have hl := hr.bytes.2
  have HBy := Lib.hid hr.bytes.1
  have HL := Lib.hid hl
  clear hr
  by_cases hbig : 1048576 < len
  · have hd : decide (1048576 < (len : Int)) = true := by simp; omega
    have HD := Lib.hid hd
    clear hd hl hbig
    go_enter Try.func3, Try.ntmps3
    go_wp2_with fail
    refine (big_any _ a len cap).mono ?_
    rw [HD.out]
    rintro e w' ⟨rfl, rfl⟩
    go_wp2_with fail
    go_ret
    exact ⟨rfl, Below.refl _ _⟩
  · have hd : decide (1048576 < (len : Int)) = false := by simp; omega
    have HD := Lib.hid hd
    clear hd hl hbig
    go_enter Try.func3, Try.ntmps3
    go_wp2_with fail
    refine (big_any _ a len cap).mono ?_
    rw [HD.out]
    rintro e w' ⟨rfl, rfl⟩
    go_wp2_with fail
    refine (drawMask_any _ a len cap HL.out HBy.out).mono ?_
    rintro e w1 ⟨m, hm, rfl, hb1⟩
    have s1 := hb1.size
    have HB1 := Lib.hid (HBy.out.kept (w' := w1) (fun k hk => hb1.block k hk))
    go_wp2_with fail
    refine (places_any _ a len cap HL.out (fun j hj => by obtain ⟨b, off, y, h1, h2, h3⟩ := HB1.out j hj; exact ⟨b, off, y, h1, by omega, h3⟩)).mono ?_
    rintro e w2 ⟨v, ps, hps, hP, rfl, own, hb2⟩
    obtain ⟨pa, pc, rfl⟩ := own.form
    obtain ⟨g, rfl, _, _, hc⟩ := own.cell 0 (by omega)
    have hp0 := hP _ (List.getElem_mem (by omega : 0 < ps.length))
    have ho : maskP (ps[0] % 256) := by unfold maskP; omega
    obtain ⟨p0, p1⟩ := hp0
    have HPS := Lib.hid hps
    generalize ps[0] = p at *
    clear hP own hps
    have hB2 := Lib.hid (hb1.trans (hb2.mono s1))
    have s2 := (hb1.trans (hb2.mono s1)).size
    clear hb1 hb2 s1 HB1 HBy
    have hps' : (0 : Int) < (ps.length : Int) := by have := HPS.out; omega
    have HM := Lib.hid hm
    have HO := Lib.hid ho
    clear ho hm
    go_wp2_with fail
    generalize p % 256 = o at *
    clear hc p0 p1
    have h1 := fun (W : World) => pLanes_any m W
    have h2 := fun B W a cap (h : Nums B W a (lanesOf m)) => pMaskOf_any B W a (lanesOf m) cap (by have := lanes_rng2 (m := m); omega) h
    have h3 := fun (W : World) => pSplit_any m o W
    have hall : (lanesOf m).all isL = true := by
      rw [List.all_eq_true]; intro x hx; have := lanesTo_lane (Nat.le_refl 8) x hx; exact isL_mk this.1 this.2
    rw [maskV_yes hall, maskOf_lanes HM.out.1 HM.out.2, hall] at h2
    obtain ⟨x, y, hx, hy, hxP, hyP, hsum, hdis, hcnt, hx0, hy0, hx8, hy8⟩ := masks_plain HM.out HO.out
    rw [hx, hy] at h3
    have h4 := fun B W a cap v (h : Nums B W a (lanesOf m)) => has_any B W a (lanesOf m) cap v (by have := lanes_rng2 (m := m); omega) h
    have hcon := fun k (hk : k < 8) => contains_lanes (m := m) (k := k) hk
    have h5 := fun (W : World) => pIsMask_any m W
    rw [isM_mk HM.out.1 HM.out.2] at h5
    have h6 := fun (W : World) => pCount_any m W
    have hcm : cntL m = ((lanesOf m).length : Int) := by unfold cntL; rw [isM_mk HM.out.1 HM.out.2]; rfl
    rw [hcm] at h6
    have h7 := fun (W : World) => pCount_any x W
    have h8 := fun (W : World) => pCount_any y W
    have hl8 := lanes_rng2 (m := m)
    have hrg : ∀ x ∈ lanesOf m, i64R x := fun x hx => by have := lanesTo_lane (Nat.le_refl 8) x hx; unfold i64R; omega
    generalize lanesOf m = xs at *
    generalize cntL x = cx at *
    generalize cntL y = cy at *
    obtain ⟨m0, m1⟩ := HM.out
    obtain ⟨x0, x1⟩ := hxP
    obtain ⟨y0, y1⟩ := hyP
    replace h1 := Lib.hid h1
    replace h2 := Lib.hid h2
    replace h3 := Lib.hid h3
    replace h4 := Lib.hid h4
    replace h5 := Lib.hid h5
    replace h6 := Lib.hid h6
    replace h7 := Lib.hid h7
    replace h8 := Lib.hid h8
    replace hsum := Lib.hid hsum
    replace hdis := Lib.hid hdis
    replace hcnt := Lib.hid hcnt
    replace hcon := Lib.hid hcon
    replace hrg := Lib.hid hrg
    clear hall hcm hx hy
    refine (h1.out _).mono ?_
    rintro e w3 ⟨v3, rfl, o3, b3⟩
    obtain ⟨a3, c3, rfl⟩ := o3.form
    have N3 := Lib.hid (o3.nums hrg.out (Nat.le_refl _))
    have hB3 := Lib.hid (hB2.out.trans (b3.mono s2))
    clear o3 b3
    go_wp2_with fail
    refine (h2.out _ _ _ _ N3.out).mono ?_
    rintro e w' ⟨rfl, rfl⟩
    go_wp2_with fail
    refine (h3.out _).mono ?_
    rintro e w' ⟨rfl, rfl⟩
    go_wp2_with fail
    go_loop [11] (fun i => ∃ k : Nat, k ≤ 8 ∧ i = .int .i64 k) (fun i => 8 - (intOf i).toNat)
    case atStart => exact ⟨0, by omega, rfl⟩
    case round =>
      obtain ⟨k, hk, rfl⟩ := hrel
      by_cases hlt : k < 8
      · have g1 := fun (W : World) => pHasLane_any m (k : Int) W
        have g2 := fun B W a cap (h : Nums B W a xs) => h4.out B W a cap (k : Int) h
        rw [hcon.out k hlt] at g2
        have g3 := fun (W : World) => pHasLane_any x (k : Int) W
        have g4 := fun (W : World) => pHasLane_any y (k : Int) W
        have gd := hdis.out k hlt
        obtain ⟨bm, hbm⟩ : ∃ b, b = hasL m (k : Int) := ⟨_, rfl⟩
        obtain ⟨bx, hbx⟩ : ∃ b, b = hasL x (k : Int) := ⟨_, rfl⟩
        obtain ⟨b_y, hby⟩ : ∃ b, b = hasL y (k : Int) := ⟨_, rfl⟩
        rw [← hbm] at g1 g2
        rw [← hbx] at g3 gd
        rw [← hby] at g4 gd
        clear hbm hbx hby
        replace g1 := Lib.hid g1
        replace g2 := Lib.hid g2
        cases bx with
        | false =>
          replace g3 := Lib.hid g3
          clear gd g4
          go_wp2_with fail
          refine (g1.out _).mono ?_
          rintro e w' ⟨rfl, rfl⟩
          go_wp2_with fail
          refine (g2.out _ _ _ _ N3.out).mono ?_
          rintro e w' ⟨rfl, rfl⟩
          go_wp2_with fail
          refine (g3.out _).mono ?_
          rintro e w' ⟨rfl, rfl⟩
          go_wp2_with fail
          go_round
          case rel => exact ⟨k + 1, by omega, by go_num⟩
          case measure => simp [intOf]; omega
        | true =>
          rw [gd rfl] at g4
          replace g3 := Lib.hid g3
          replace g4 := Lib.hid g4
          clear gd
          go_wp2_with fail
          refine (g1.out _).mono ?_
          rintro e w' ⟨rfl, rfl⟩
          go_wp2_with fail
          refine (g2.out _ _ _ _ N3.out).mono ?_
          rintro e w' ⟨rfl, rfl⟩
          go_wp2_with fail
          refine (g3.out _).mono ?_
          rintro e w' ⟨rfl, rfl⟩
          go_wp2_with fail
          refine (g4.out _).mono ?_
          rintro e w' ⟨rfl, rfl⟩
          go_wp2_with fail
          go_round
          case rel => exact ⟨k + 1, by omega, by go_num⟩
          case measure => simp [intOf]; omega
      · obtain rfl : k = 8 := by omega
        have q1 : (x + y == m) = true := by rw [hsum.out]; simp
        have q2 : (cx + cy == (xs.length : Int)) = true := by rw [hcnt.out]; simp
        go_wp2_with fail
        refine (h5.out _).mono ?_
        rintro e w' ⟨rfl, rfl⟩
        go_wp2_with fail
        refine (h6.out _).mono ?_
        rintro e w' ⟨rfl, rfl⟩
        go_wp2_with fail
        refine (h7.out _).mono ?_
        rintro e w' ⟨rfl, rfl⟩
        go_wp2_with fail
        refine (h8.out _).mono ?_
        rintro e w' ⟨rfl, rfl⟩
        go_wp2_with fail
        go_ret
        exact ⟨rfl, hB3.out⟩

end Go.Proofs.Ytkfolcmahbnenaa
