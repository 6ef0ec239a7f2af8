/- Post-dominators: the model's functions. -/
import Derived.Test.YtbnebghpakllpaaAfterS
import Derived.Test.YtbnebghpakllpaaHas
import Derived.Deep.RegionHeld3
namespace Go.Proofs.Ytbnebghpakllpaa
open Go.RowKit Go

/-- IsAfter. -/
def afterQ (p : List I4) (R : List Int → Nat → Bool) (RA : List Int → Int → Nat → Bool) (a c : Int) : Bool := nodeOk p a && (decide (0 ≤ c ∧ c ≤ (p.length : Int)) && (R [a] p.length && aftB p RA a c))
/-- AftersOf. -/
def aftersQ (p : List I4) (R : List Int → Nat → Bool) (RA : List Int → Int → Nat → Bool) (a : Int) : List Int := if exitQ p R a = true then nodesTo (fun c => aftB p RA a (c : Int)) (p.length + 1) else []
/-- The elements of a list without one. -/
def othersL (xs : List Int) (n : Int) : List Int := xs.filter fun x => x != n
/-- The first element from which all are after. -/
def firstL (p : List I4) (RA : List Int → Int → Nat → Bool) (xs : List Int) : Int := (xs.find? fun x => xs.all fun y => aftB p RA x y).getD (-1)
def firstQ (p : List I4) (R : List Int → Nat → Bool) (RA : List Int → Int → Nat → Bool) (a : Int) : Int := firstL p RA (othersL (aftersQ p R RA a) a)
def bothL (xs ys : List Int) : List Int := xs.filter fun x => inL ys x
def meetsQ (p : List I4) (R : List Int → Nat → Bool) (RA : List Int → Int → Nat → Bool) (a b : Int) : Int := firstL p RA (bothL (aftersQ p R RA a) (aftersQ p R RA b))

theorem aftersQ_rng {p : List I4} {R : List Int → Nat → Bool} {RA : List Int → Int → Nat → Bool} {a : Int} : (∀ x ∈ aftersQ p R RA a, 0 ≤ x ∧ x ≤ p.length) ∧ (aftersQ p R RA a).length ≤ 33 := by
  unfold aftersQ
  split
  · rename_i h
    have h32 := progOk_len (nodeOk_iff.1 (Bool.and_eq_true_iff.1 h).1).1
    refine ⟨fun x hx => ?_, Nat.le_trans (nodesTo_le _ _) (by omega)⟩
    obtain ⟨i, hi, _, rfl⟩ := nodesTo_mem.1 hx
    omega
  · exact ⟨(fun x hx => by simp at hx), by simp⟩

theorem filterT_yes {f : Int → Bool} {xs : List Int} {k : Nat} (hk : k < xs.length) (h : f xs[k] = true) : (xs.take (k + 1)).filter f = (xs.take k).filter f ++ [xs[k]] := by
  rw [List.take_succ_eq_append_getElem hk, List.filter_append]
  simp [h]
theorem filterT_no {f : Int → Bool} {xs : List Int} {k : Nat} (hk : k < xs.length) (h : f xs[k] = false) : (xs.take (k + 1)).filter f = (xs.take k).filter f := by
  rw [List.take_succ_eq_append_getElem hk, List.filter_append]
  simp [h]
theorem filterT_le (f : Int → Bool) (xs : List Int) (k : Nat) : ((xs.take k).filter f).length ≤ k := Nat.le_trans (List.length_filter_le _ _) (List.length_take_le _ _)

set_option maxRecDepth 100000 in
set_option maxHeartbeats 1000000 in
theorem sOthers_any (B : Nat) (w : World) (a : Option Addr) (xs : List Int) (cap : Nat) (n : Int) (hl : xs.length ≤ 1000) (h : Nums B w a xs) (hB : B ≤ w.heap.size) :
    Calls Try.prog 84 #[.slice a xs.length cap, .int .i64 n] w (RowSaid (othersL xs n) w) := by
  obtain ⟨i0, hi0, hz0, hz1, hz2⟩ := info_parts info_int
  have HH := Lib.hid h
  have e : othersL xs n = xs.filter fun x => x != n := rfl
  rw [e]
  clear h e
  go_enter Try.func84, Try.ntmps84
  go_wp2_with fail
  go_loopw [5, 6] (fun v i wr => ∃ j : Nat, j ≤ xs.length ∧ i = .int .i64 j ∧ Own w.heap.size wr v ((xs.take j).filter fun x => x != n) ∧ Below w.heap.size w wr) (fun _ i _ => xs.length - (intOf i).toNat)
  case atStart => exact ⟨0, Nat.zero_le _, rfl, Own.made w [] rfl (Nat.le_refl _) rfl (by unfold maxLen; simp), below1 _ _⟩
  case round =>
    obtain ⟨j, hj, rfl, hown, hb⟩ := hrel
    have hsz := hb.size
    have HO := Lib.hid hown
    have HB := Lib.hid hb
    by_cases hlt : j < xs.length
    · obtain ⟨g, off, rfl, hg, hc⟩ := (HH.out.kept (HB.out.mono hB)).2 j hlt
      have Hyes := Lib.hid (filterT_yes (f := fun x => x != n) hlt)
      have Hno := Lib.hid (filterT_no (f := fun x => x != n) hlt)
      have hle := filterT_le (fun x => x != n) xs j
      generalize xs[j] = x at *
      cases hx : (x != n) with
      | true =>
        have HY := Lib.hid (Hyes.out hx)
        generalize (xs.take j).filter (fun x => x != n) = ys at *
        clear hown hb
        go_wp2_with (at_builtin; refine wpList_append_own _ rfl _ _ 26 rfl w.heap.size 3 i0 (.int .i64 0) 1 8 Try.underlying26 hi0 hz0 hz1 hz2 rfl (by decide) _ _ _ rfl (World.ownsRow.alloc HO.out _) ⟨wr.heap.size, 0, none⟩ 1 1 [.int .i64 x] rfl rfl (cell_one_new _ _ _) (by simp [Value.oneCell']) (by unfold maxLen; omega) (by omega) (by simp; omega) ?_; intro v' w4 hown4 hgrow _)
        have HN := Lib.hid (own_snoc HO.out HB.out hown4 hgrow)
        clear hown4 hgrow
        go_roundw
        case rel => exact ⟨j + 1, hlt, by go_num, by rw [HY.out]; exact HN.out.1, HN.out.2⟩
        case measure => simp [intOf]; omega
      | false =>
        have HY := Lib.hid (Hno.out hx)
        clear hown hb
        go_wp2_with fail
        go_roundw
        case rel => exact ⟨j + 1, hlt, by go_num, by rw [HY.out]; exact HO.out, HB.out⟩
        case measure => simp [intOf]; omega
    · obtain rfl : j = xs.length := by omega
      rw [List.take_length] at HO
      clear hown hb
      go_wp2_with fail
      go_ret
      exact ⟨_, rfl, HO.out, HB.out⟩

theorem others_less {xs : List Int} {n : Int} : decide ((othersL xs n).length < xs.length) = inL xs n := by
  rw [Bool.eq_iff_iff, decide_eq_true_iff]
  unfold inL othersL
  rw [List.contains_iff_mem]
  constructor
  · intro h
    refine Classical.byContradiction fun hn => ?_
    have : xs.filter (fun x => x != n) = xs := List.filter_eq_self.2 fun x hx => by
      rw [bne_iff_ne]
      intro e
      exact hn (e ▸ hx)
    rw [this] at h
    omega
  · intro h
    have h1 : (xs.filter fun x => x != n).length < xs.length := by
      rcases Nat.lt_or_ge (xs.filter fun x => x != n).length xs.length with h2 | h2
      · exact h2
      · exfalso
        have h3 : xs.filter (fun x => x != n) = xs := List.filter_eq_self.2 (by
          have h4 := List.length_filter_eq_length_iff.1 (Nat.le_antisymm (List.length_filter_le _ _) h2)
          exact h4)
        have h5 : n ∈ xs.filter fun x => x != n := by rw [h3]; exact h
        have := (List.mem_filter.1 h5).2
        simp at this
    omega

set_option maxRecDepth 100000 in
set_option maxHeartbeats 400000 in
theorem sHas_any (B : Nat) (w : World) (a : Option Addr) (xs : List Int) (cap : Nat) (n : Int) (hl : xs.length ≤ 1000) (h : Nums B w a xs) (hB : B ≤ w.heap.size) :
    Calls Try.prog 66 #[.slice a xs.length cap, .int .i64 n] w (Said (.bool (inL xs n)) w) := by
  have h1 := Lib.hid (sOthers_any B w a xs cap n hl h hB)
  have hle := others_less (xs := xs) (n := n)
  rw [← hle]
  clear h hle
  generalize othersL xs n = ys at *
  go_enter Try.func66, Try.ntmps66
  go_wp2_with fail
  refine h1.out.mono ?_
  rintro e w1 ⟨v, rfl, o1, b1⟩
  obtain ⟨a1, c1, rfl⟩ := o1.form
  have B1 := Lib.hid b1
  clear o1 b1
  go_wp2_with fail
  go_ret
  exact ⟨rfl, B1.out⟩

set_option maxRecDepth 100000 in
set_option maxHeartbeats 1000000 in
theorem sAfters_any (B : Nat) (w : World) (a : Option Addr) (p : List I4) (R : List Int → Nat → Bool) (hR : AllReach p R) (RA : List Int → Int → Nat → Bool) (hRA : AllAvoid p RA) (cap : Nat) (k : Int) (hl : p.length ≤ 10000000) (h : Nums B w a (flat p)) (hB : B ≤ w.heap.size) :
    Calls Try.prog 90 #[.slice a p.length cap, .int .i64 k] w (RowSaid (aftersQ p R RA k) w) := by
  obtain ⟨i0, hi0, hz0, hz1, hz2⟩ := info_parts info_int
  have h1 := fun W h hB => sReachesExit_any B W a p R hR cap k hl h hB
  have HH := Lib.hid h
  have e : aftersQ p R RA k = if exitQ p R k = true then nodesTo (fun c => aftB p RA k (c : Int)) (p.length + 1) else [] := rfl
  rw [e]
  clear h e
  have hB0 := Lib.hid (below1 w (.cells #[] 3))
  have HO0 := Lib.hid (Own.made w [] rfl (Nat.le_refl _) rfl (by unfold maxLen; simp))
  cases hx : exitQ p R k with
  | false =>
    rw [hx] at h1
    replace h1 := Lib.hid h1
    rw [if_neg (by simp)]
    clear hx hR hRA
    go_enter Try.func90, Try.ntmps90
    go_wp2_with fail
    refine (h1.out _ (HH.out.kept (hB0.out.mono hB)) (Nat.le_trans hB hB0.out.size)).mono ?_
    rintro e w1 ⟨rfl, b1⟩
    have HB1 := Lib.hid (hB0.out.trans (b1.mono hB0.out.size))
    have HO1 := Lib.hid (HO0.out.below b1)
    clear b1
    go_wp2_with fail
    go_ret
    exact ⟨_, rfl, HO1.out, HB1.out⟩
  | true =>
    have hx' := hx
    unfold exitQ at hx'
    obtain ⟨hp, h0, hn⟩ := nodeOk_iff.1 (Bool.and_eq_true_iff.1 hx').1
    have h32 := progOk_len hp
    rw [hx] at h1
    replace h1 := Lib.hid h1
    rw [if_pos rfl]
    obtain ⟨k, rfl⟩ := Int.eq_ofNat_of_zero_le h0
    have h2 := Lib.hid (fun W c h hB => sAfter_any B W a p cap k c hp (by omega) h hB RA hRA)
    clear hx hx' hR hRA hp
    go_enter Try.func90, Try.ntmps90
    go_wp2_with fail
    refine (h1.out _ (HH.out.kept (hB0.out.mono hB)) (Nat.le_trans hB hB0.out.size)).mono ?_
    rintro e w1 ⟨rfl, b1⟩
    have HB1 := Lib.hid (hB0.out.trans (b1.mono hB0.out.size))
    have HO1 := Lib.hid (HO0.out.below b1)
    clear b1
    go_wp2_with fail
    go_loopw [5, 6] (fun v i wr => ∃ j : Nat, j ≤ p.length + 1 ∧ i = .int .i64 j ∧ Own w.heap.size wr v (nodesTo (fun c => aftB p RA k (c : Int)) j) ∧ Below w.heap.size w wr) (fun _ i _ => p.length + 1 - (intOf i).toNat)
    case atStart => exact ⟨0, Nat.zero_le _, rfl, HO1.out, HB1.out⟩
    case round =>
      obtain ⟨j, hj, rfl, hown, hb⟩ := hrel
      have hsz := hb.size
      have HO := Lib.hid hown
      have HB := Lib.hid hb
      by_cases hlt : j < p.length + 1
      · have h3 := h2.out wr j (HH.out.kept (HB.out.mono hB)) (Nat.le_trans hB HB.out.size)
        have Hyes := Lib.hid (nodesTo_yes (f := fun c => aftB p RA k (c : Int)) (k := j))
        have Hno := Lib.hid (nodesTo_no (f := fun c => aftB p RA k (c : Int)) (k := j))
        have hle := nodesTo_le (fun c => aftB p RA k (c : Int)) j
        cases hf : aftB p RA k (j : Int) with
        | true =>
          rw [hf] at h3
          replace h3 := Lib.hid h3
          have HY := Lib.hid (Hyes.out hf)
          generalize nodesTo (fun c => aftB p RA k (c : Int)) j = ys at *
          clear hown hb hf
          go_wp2_with fail
          refine h3.out.mono ?_
          rintro e w2 ⟨rfl, b2⟩
          have s2 := b2.size
          have HB2 := Lib.hid (HB.out.trans (b2.mono hsz))
          have HO2 := Lib.hid (HO.out.below b2)
          clear b2
          go_wp2_with (at_builtin; refine wpList_append_own _ rfl _ _ 26 rfl w.heap.size 3 i0 (.int .i64 0) 1 8 Try.underlying26 hi0 hz0 hz1 hz2 rfl (by decide) _ _ _ rfl (World.ownsRow.alloc HO2.out _) ⟨w2.heap.size, 0, none⟩ 1 1 [.int .i64 (j : Int)] rfl rfl (cell_one_new _ _ _) (by simp [Value.oneCell']) (by unfold maxLen; omega) (by omega) (by simp; omega) ?_; intro v' w4 hown4 hgrow _)
          have HN := Lib.hid (own_snoc HO2.out HB2.out hown4 hgrow)
          clear hown4 hgrow
          go_roundw
          case rel => exact ⟨j + 1, hlt, by go_num, by rw [HY.out]; exact HN.out.1, HN.out.2⟩
          case measure => simp [intOf]; omega
        | false =>
          rw [hf] at h3
          replace h3 := Lib.hid h3
          have HY := Lib.hid (Hno.out hf)
          clear hown hb hf
          go_wp2_with fail
          refine h3.out.mono ?_
          rintro e w2 ⟨rfl, b2⟩
          have HB2 := Lib.hid (HB.out.trans (b2.mono hsz))
          have HO2 := Lib.hid (HO.out.below b2)
          clear b2
          go_wp2_with fail
          go_roundw
          case rel => exact ⟨j + 1, hlt, by go_num, by rw [HY.out]; exact HO2.out, HB2.out⟩
          case measure => simp [intOf]; omega
      · obtain rfl : j = p.length + 1 := by omega
        clear hown hb
        go_wp2_with fail
        go_ret
        exact ⟨_, rfl, HO.out, HB.out⟩

/-- Nothing under the world W has turned. -/
def Kept (W w : World) : Prop := Below W.heap.size W w
theorem Kept.drew {W w : World} (h : Kept W w) : Kept W w.drew := Below.trans h (below_drewN _ w 1)
theorem Kept.call {W w w' : World} (h : Kept W w) (hb : Below w.heap.size w w') : Kept W w' := Below.trans h (hb.mono h.size)

theorem firstL_find {p : List I4} {RA : List Int → Int → Nat → Bool} {xs : List Int} {i : Nat} (hi : i < xs.length) (hno : ∀ x ∈ xs.take i, (xs.all fun y => aftB p RA x y) = false) (hy : (xs.all fun y => aftB p RA xs[i] y) = true) : firstL p RA xs = xs[i] := by
  unfold firstL
  have : xs.find? (fun x => xs.all fun y => aftB p RA x y) = some xs[i] := by
    rw [List.find?_eq_some_iff_getElem]
    refine ⟨hy, i, hi, rfl, fun j hj => ?_⟩
    rw [hno _ (by rw [List.mem_take_iff_getElem]; exact ⟨j, by omega, rfl⟩)]
    rfl
  rw [this]
  rfl
theorem firstL_none {p : List I4} {RA : List Int → Int → Nat → Bool} {xs : List Int} (hno : ∀ x ∈ xs.take xs.length, (xs.all fun y => aftB p RA x y) = false) : firstL p RA xs = -1 := by
  unfold firstL
  rw [List.take_length] at hno
  have : xs.find? (fun x => xs.all fun y => aftB p RA x y) = none := by
    rw [List.find?_eq_none]
    intro x hx
    rw [hno x hx]
    simp
  rw [this]
  rfl
theorem allT_step {f : Int → Bool} {xs : List Int} {k : Nat} (hk : k < xs.length) : (xs.take (k + 1)).all f = ((xs.take k).all f && f xs[k]) := by
  rw [List.take_succ_eq_append_getElem hk, List.all_append]
  simp

set_option maxRecDepth 100000 in
set_option maxHeartbeats 2000000 in
theorem sFirst_any (B : Nat) (w : World) (a : Option Addr) (p : List I4) (RA : List Int → Int → Nat → Bool) (hRA : AllAvoid p RA) (cap : Nat) (hp : progOk p = true) (h : Nums B w a (flat p)) (hB : B ≤ w.heap.size) (B2 : Nat) (a2 : Option Addr) (xs : List Int) (cap2 : Nat) (hl2 : xs.length ≤ 1000) (hx : ∀ x ∈ xs, 0 ≤ x ∧ x ≤ p.length) (h2 : Nums B2 w a2 xs) (hB2 : B2 ≤ w.heap.size) :
    Calls Try.prog 89 #[.slice a p.length cap, .slice a2 xs.length cap2] w (Said (.int .i64 (firstL p RA xs)) w) := by
  have HH := Lib.hid h
  have HH2 := Lib.hid h2
  have HX := Lib.hid hx
  have h32 := progOk_len hp
  have h1 := Lib.hid (fun W (k : Nat) c hk h hB => sAfter_any B W a p cap k c hp hk h hB RA hRA)
  clear h h2 hx hp hRA
  go_enter Try.func89, Try.ntmps89
  go_wp2_with fail
  go_loopw [5] (fun i wr => ∃ j : Nat, j ≤ xs.length ∧ i = .int .i64 j ∧ Hid (∀ x ∈ xs.take j, (xs.all fun y => aftB p RA x y) = false) ∧ Below w.heap.size w wr) (fun i _ => xs.length - (intOf i).toNat)
  case atStart => exact ⟨0, Nat.zero_le _, rfl, (fun x hx => by simp at hx), Below.refl _ _⟩
  case round =>
    obtain ⟨j, hj, rfl, hr, hb⟩ := hrel
    have HB := Lib.hid hb
    clear hb
    by_cases hlt : j < xs.length
    · have Hfind := Lib.hid (firstL_find (p := p) (RA := RA) hlt hr.out)
      have Hnext := Lib.hid (anyT_take (f := fun x => xs.all fun y => aftB p RA x y) hlt hr.out)
      have hxr := HX.out _ (List.getElem_mem hlt)
      have HXJ := Lib.hid (List.getElem?_eq_getElem hlt)
      generalize xs[j] = xj at *
      obtain ⟨xj, rfl⟩ := Int.eq_ofNat_of_zero_le hxr.1
      go_wp2_with fail
      go_loopw [6, 7] (fun av iv wr => ∃ i : Nat, i ≤ xs.length ∧ iv = .int .i64 i ∧ av = .bool ((xs.take i).all fun y => aftB p RA xj y) ∧ Below w.heap.size w wr) (fun _ iv _ => xs.length - (intOf iv).toNat)
      case atStart => exact ⟨0, Nat.zero_le _, rfl, rfl, HB.out⟩
      case round =>
        obtain ⟨i, hi, rfl, rfl, hb⟩ := hrel
        have HB2 := Lib.hid hb
        have hsz := hb.size
        clear hb
        by_cases hit : i < xs.length
        · obtain ⟨g, off, rfl, hg, hci⟩ := (HH2.out.kept (HB2.out.mono hB2)).2 i hit
          obtain ⟨g', off', e', _, hcj⟩ := (HH2.out.kept (HB2.out.mono hB2)).2 j hlt
          cases e'
          have e1 : xs[j] = (xj : Int) := by have h := HXJ.out; rw [List.getElem?_eq_getElem hlt] at h; exact Option.some.inj h
          rw [e1] at hcj
          have HS := Lib.hid (allT_step (f := fun y => aftB p RA xj y) hit)
          generalize xs[i] = y at *
          cases hall : (xs.take i).all fun y => aftB p RA xj y with
          | false =>
            have HA := Lib.hid hall
            clear hall
            go_wp2_with fail
            go_quiet (fail)
            go_wp2_with fail
            go_roundw
            case rel => exact ⟨i + 1, hit, by go_num, by rw [HS.out, HA.out]; rfl, HB2.out.trans (below_drewN _ _ _)⟩
            case measure => simp [intOf]; omega
          | true =>
            have HA := Lib.hid hall
            have hcall : ∀ W, Kept wr W → Calls Try.prog 108 #[.slice a p.length cap, .int .i64 (xj : Int), .int .i64 y] W (fun e w' => e = .returned (.bool (aftB p RA xj y)) ∧ Below W.heap.size W w') := fun W hW =>
              h1.out W xj y (by omega) ((HH.out.kept (HB2.out.mono hB)).kept (hW.mono (Nat.le_trans hB HB2.out.size))) (Nat.le_trans hB (Nat.le_trans HB2.out.size hW.size))
            have HC := Lib.hid hcall
            have hk0 : Kept wr wr := Below.refl _ _
            have hgl : g < wr.heap.size := by omega
            generalize aftB p RA (xj : Int) y = r at *
            clear hall hcall
            go_wp2_with fail
            go_region_held3 (fun w' => w'.cell? ⟨g, off + j, none⟩ = some (.int .i64 (xj : Int)) ∧ w'.cell? ⟨g, off + i, none⟩ = some (.int .i64 y)) (first | go_keep | ((repeat' apply And.intro) <;> (rw [hb1.cell (by simp; omega)]; simp [*]))) ((first | (go_at_call 108; refine (HC.out _ (by first | exact Kept.drew hk0 | exact below_drewN _ _ _)).mono ?_; rintro e w1 ⟨rfl, hb1⟩)))
            have hb2 : Below wr.heap.size wr w1 := ⟨hb1.os, hb1.tape, hb1.output, hb1.size, hb1.block⟩
            go_wp2_with fail
            go_roundw
            case rel => exact ⟨i + 1, hit, by go_num, by rw [HS.out, HA.out]; rfl, HB2.out.trans (hb2.mono hsz)⟩
            case measure => simp [intOf]; omega
        · obtain rfl : i = xs.length := by omega
          rw [List.take_length] at *
          cases hall : xs.all fun y => aftB p RA xj y with
          | false =>
            have HA := Lib.hid hall
            clear hall
            go_wp2_with fail
            go_roundw
            case rel => exact ⟨j + 1, hlt, by go_num, Hnext.out HA.out, HB2.out⟩
            case measure => simp [intOf]; omega
          | true =>
            have HA := Lib.hid (Hfind.out hall)
            obtain ⟨g', off', rfl, _, hcj⟩ := (HH2.out.kept (HB2.out.mono hB2)).2 j hlt
            have e1 : xs[j] = (xj : Int) := by have h := HXJ.out; rw [List.getElem?_eq_getElem hlt] at h; exact Option.some.inj h
            rw [e1] at hcj
            clear hall
            go_wp2_with fail
            go_ret
            exact ⟨by rw [HA.out]; rfl, HB2.out⟩
    · obtain rfl : j = xs.length := by omega
      have HA := Lib.hid (firstL_none (p := p) (RA := RA) hr.out)
      go_wp2_with fail
      go_ret
      exact ⟨by rw [HA.out]; rfl, HB.out⟩

end Go.Proofs.Ytbnebghpakllpaa
