/- Flow graphs: the contracts of the model's functions. -/
import Derived.Test.YtbnebghpakllpaaReachP
import Derived.Test.YtbnebghpakllpaaSeek
namespace Go.Proofs.Ytbnebghpakllpaa
open Go.RowKit Go

/-- The marks of n nodes. -/
def boolsOf (n : Nat) (f : Nat → Bool) : List Bool := (List.range n).map f
theorem boolsOf_len (n : Nat) (f : Nat → Bool) : (boolsOf n f).length = n := by unfold boolsOf; rw [List.length_map, List.length_range]
theorem boolsOf_at {n : Nat} {f : Nat → Bool} {k : Nat} (hk : k < n) : (boolsOf n f).getD k false = f k := by
  unfold boolsOf
  rw [List.getD_eq_getElem?_getD, List.getElem?_map, List.getElem?_range hk]
  rfl

theorem sSeek_all {B B2 : Nat} {w : World} {a : Option Addr} {a2 : Addr} {p : List I4} {us : List Int} {R : List Int → Nat → Bool} {cap cap2 : Nat} (hR : AllReach p R) (hp : progOk p = true) (h : Nums B w a (flat p)) (hB : B ≤ w.heap.size) (hu : ∀ u ∈ us, 0 ≤ u ∧ u ≤ p.length) (hul : us.length ≤ 1000) (h2 : Nums B2 w (some a2) us) (hB2 : B2 ≤ w.heap.size) :
    Calls Try.prog 60 #[.slice a p.length cap, .slice (some a2) us.length cap2] w (BoolsSaid (boolsOf (p.length + 1) (R us)) w) :=
  sSeek_any B w a p cap hp h hB a2 us cap2 hu hul B2 h2 hB2 _ (hR us)

set_option maxRecDepth 100000 in
set_option maxHeartbeats 1000000 in
theorem sMarked_any (B : Nat) (w : World) (g n : Nat) (f : Nat → Bool) (hn : n ≤ 1000) (h : OwnB 4 B w g (boolsOf n f)) :
    Calls Try.prog 59 #[.slice (some ⟨g, 0, none⟩) n n] w (RowSaid (nodesTo f n) w) := by
  obtain ⟨i0, hi0, hz0, hz1, hz2⟩ := info_parts info_int
  have hl := boolsOf_len n f
  have hg := h.lt.2
  have HH := Lib.hid h
  clear h
  go_enter Try.func59, Try.ntmps59
  go_wp2_with fail
  go_loopw [3, 4] (fun v i wr => ∃ j : Nat, j ≤ n ∧ i = .int .i64 j ∧ Own w.heap.size wr v (nodesTo f j) ∧ Below w.heap.size w wr) (fun _ i _ => n - (intOf i).toNat)
  case atStart => exact ⟨0, Nat.zero_le _, rfl, Own.made w [] rfl (Nat.le_refl _) rfl (by unfold maxLen; simp), below1 _ _⟩
  case round =>
    obtain ⟨j, hj, rfl, hown, hb⟩ := hrel
    have hsz := hb.size
    have HO := Lib.hid hown
    have HB := Lib.hid hb
    by_cases hlt : j < n
    · have hc := HH.out.cell j (by omega)
      rw [boolsOf_at hlt] at hc
      have hc2 : wr.cell? ⟨g, j, none⟩ = some (.bool (f j)) := by rw [hb.cell (p := ⟨g, j, none⟩) hg]; exact hc
      clear hc hl
      cases hf : f j with
      | true =>
        rw [hf] at hc2
        have HY := Lib.hid (nodesTo_yes hf)
        have hle := nodesTo_le f j
        generalize nodesTo f j = xs at *
        clear hf hown hb
        go_wp2_with (at_builtin; refine wpList_append_own _ rfl _ _ 26 rfl w.heap.size 3 i0 (.int .i64 0) 1 8 Try.underlying26 hi0 hz0 hz1 hz2 rfl (by decide) _ _ _ rfl (World.ownsRow.alloc HO.out _) ⟨wr.heap.size, 0, none⟩ 1 1 [.int .i64 (j : Int)] rfl rfl (cell_one_new _ _ _) (by simp [Value.oneCell']) (by unfold maxLen; omega) (by omega) (by simp; omega) ?_; intro v' w4 hown4 hgrow _)
        have HN := Lib.hid (own_snoc HO.out HB.out hown4 hgrow)
        clear hown4 hgrow
        go_roundw
        case rel => exact ⟨j + 1, by omega, by go_num, by rw [HY.out]; exact HN.out.1, HN.out.2⟩
        case measure => simp [intOf]; omega
      | false =>
        rw [hf] at hc2
        have HY := Lib.hid (nodesTo_no hf)
        clear hf hown hb
        go_wp2_with fail
        go_roundw
        case rel => exact ⟨j + 1, by omega, by go_num, by rw [HY.out]; exact HO.out, HB.out⟩
        case measure => simp [intOf]; omega
    · obtain rfl : j = n := by omega
      clear hown hb hl
      go_wp2_with fail
      go_ret
      exact ⟨_, rfl, HO.out, HB.out⟩

theorem nums_one {w : World} {k : Int} (hk : i64R k) : Nums (w.heap.size + 1) (w.alloc (.cells #[.int .i64 k] 3)) (some ⟨w.heap.size, 0, none⟩) [k] :=
  (Own.made w [k] rfl (Nat.le_refl _) rfl (by unfold maxLen; simp)).nums (by intro x hx; rw [List.mem_singleton] at hx; subst hx; exact hk) (by simp)

set_option maxRecDepth 100000 in
set_option maxHeartbeats 1000000 in
theorem sReachable_any (B : Nat) (w : World) (a : Option Addr) (p : List I4) (R : List Int → Nat → Bool) (hR : AllReach p R) (cap : Nat) (k : Int) (hl : p.length ≤ 10000000) (h : Nums B w a (flat p)) (hB : B ≤ w.heap.size) :
    Calls Try.prog 29 #[.slice a p.length cap, .int .i64 k] w (RowSaid (reachQ p R k) w) := by
  have h1 := sIsNode_any B w a p cap k hl h hB
  have HH := Lib.hid h
  have e : reachQ p R k = if nodeOk p k = true then nodesTo (R [k]) (p.length + 1) else [] := rfl
  rw [e]
  clear e h
  cases hk : nodeOk p k with
  | false =>
    rw [hk] at h1
    replace h1 := Lib.hid h1
    rw [if_neg (by simp)]
    clear hk hR
    go_enter Try.func29, Try.ntmps29
    go_wp2_with fail
    refine h1.out.mono ?_
    rintro e w1 ⟨rfl, b1⟩
    have s1 := b1.size
    go_wp2_with fail
    go_ret
    exact ⟨_, rfl, (Own.made w1 [] rfl (Nat.le_refl _) rfl (by unfold maxLen; simp)).lower s1, b1.alloc s1 _⟩
  | true =>
    obtain ⟨hp, h0, hn⟩ := nodeOk_iff.1 hk
    have h32 := progOk_len hp
    rw [hk] at h1
    replace h1 := Lib.hid h1
    rw [if_pos rfl]
    have h2 := fun W g h hB h2 hB2 => sSeek_all (w := W) (B := B) (B2 := W.heap.size) (a := a) (a2 := g) (us := [k]) (cap := cap) (cap2 := 1) hR hp h hB (by intro u hu; rw [List.mem_singleton] at hu; omega) (by simp) h2 hB2
    have H2 := Lib.hid h2
    have hlen := boolsOf_len (p.length + 1) (R [k])
    have HM := fun W B g h => sMarked_any B W g (p.length + 1) (R [k]) (by omega) h
    generalize R [k] = f at *
    have hk64 : i64R k := by unfold i64R; omega
    clear hk hp h2 hR
    go_enter Try.func29, Try.ntmps29
    go_wp2_with fail
    refine h1.out.mono ?_
    rintro e w1 ⟨rfl, b1⟩
    have s1 := b1.size
    have B1 := Lib.hid (b1.alloc s1 (.cells #[.int .i64 k] 3))
    clear b1
    go_wp2_with fail
    refine (H2.out (w1.alloc (.cells #[.int .i64 k] 3)) ⟨w1.heap.size, 0, none⟩ (HH.out.kept (B1.out.mono hB)) (Nat.le_trans hB B1.out.size) ((nums_one hk64).more (by simp)) (Nat.le_refl _)).mono ?_
    rintro e w2 ⟨g, rfl, o2, b2⟩
    have HO2 := Lib.hid o2
    have B2 := Lib.hid (B1.out.trans (b2.mono B1.out.size))
    rw [hlen]
    clear o2 b2 hlen
    replace HM := Lib.hid HM
    go_wp2_with fail
    refine (HM.out _ _ _ HO2.out).mono ?_
    intro e w3 hr
    have HR := Lib.hid (row_said hr rfl B2.out)
    obtain ⟨v, rfl, _, _⟩ := HR.out
    clear hr
    go_wp2_with fail
    go_ret
    exact HR.out

set_option maxRecDepth 100000 in
set_option maxHeartbeats 1000000 in
theorem sReachesExit_any (B : Nat) (w : World) (a : Option Addr) (p : List I4) (R : List Int → Nat → Bool) (hR : AllReach p R) (cap : Nat) (k : Int) (hl : p.length ≤ 10000000) (h : Nums B w a (flat p)) (hB : B ≤ w.heap.size) :
    Calls Try.prog 72 #[.slice a p.length cap, .int .i64 k] w (Said (.bool (exitQ p R k)) w) := by
  have h1 := sIsNode_any B w a p cap k hl h hB
  have HH := Lib.hid h
  have e : exitQ p R k = (nodeOk p k && R [k] p.length) := rfl
  rw [e]
  clear e h
  cases hk : nodeOk p k with
  | false =>
    rw [hk] at h1
    replace h1 := Lib.hid h1
    rw [Bool.false_and]
    clear hk hR
    go_enter Try.func72, Try.ntmps72
    go_wp2_with fail
    refine h1.out.mono ?_
    rintro e w1 ⟨rfl, b1⟩
    go_wp2_with fail
    go_ret
    exact ⟨rfl, b1⟩
  | true =>
    obtain ⟨hp, h0, hn⟩ := nodeOk_iff.1 hk
    have h32 := progOk_len hp
    rw [hk] at h1
    replace h1 := Lib.hid h1
    rw [Bool.true_and]
    have h2 := fun W g h hB h2 hB2 => sSeek_all (w := W) (B := B) (B2 := W.heap.size) (a := a) (a2 := g) (us := [k]) (cap := cap) (cap2 := 1) hR hp h hB (by intro u hu; rw [List.mem_singleton] at hu; omega) (by simp) h2 hB2
    have H2 := Lib.hid h2
    have hlen := boolsOf_len (p.length + 1) (R [k])
    have hat := boolsOf_at (f := R [k]) (show p.length < p.length + 1 by omega)
    generalize R [k] = f at *
    have hk64 : i64R k := by unfold i64R; omega
    clear hk hp h2 hR
    generalize boolsOf (p.length + 1) f = bs at *
    generalize f p.length = b at *
    go_enter Try.func72, Try.ntmps72
    go_wp2_with fail
    refine h1.out.mono ?_
    rintro e w1 ⟨rfl, b1⟩
    have s1 := b1.size
    have B1 := Lib.hid (b1.alloc s1 (.cells #[.int .i64 k] 3))
    clear b1
    go_wp2_with fail
    refine (H2.out (w1.alloc (.cells #[.int .i64 k] 3)) ⟨w1.heap.size, 0, none⟩ (HH.out.kept (B1.out.mono hB)) (Nat.le_trans hB B1.out.size) ((nums_one hk64).more (by simp)) (Nat.le_refl _)).mono ?_
    rintro e w2 ⟨g, rfl, o2, b2⟩
    have hc := o2.cell p.length (by omega)
    rw [hat] at hc
    rw [hlen]
    have B2 := Lib.hid (B1.out.trans (b2.mono B1.out.size))
    clear o2 b2 hlen hat
    go_wp2_with fail
    go_ret
    exact ⟨rfl, B2.out⟩

set_option maxRecDepth 100000 in
set_option maxHeartbeats 2000000 in
theorem sEnds_any (B : Nat) (w : World) (a : Option Addr) (p : List I4) (R : List Int → Nat → Bool) (hR : AllReach p R) (cap : Nat) (hl : p.length ≤ 10000000) (h : Nums B w a (flat p)) (hB : B ≤ w.heap.size) :
    Calls Try.prog 36 #[.slice a p.length cap] w (Said (.bool (endsQ p R)) w) := by
  have h1 := sProgramOk_any B w a p cap hl h hB
  have HH := Lib.hid h
  have e : endsQ p R = (progOk p && (List.range (p.length + 1)).all fun k => !(R [0] k && circQ p R k)) := rfl
  rw [e]
  clear h e
  cases hp : progOk p with
  | false =>
    rw [hp] at h1
    replace h1 := Lib.hid h1
    rw [Bool.false_and]
    clear hp hR
    go_enter Try.func36, Try.ntmps36
    go_wp2_with fail
    refine h1.out.mono ?_
    rintro e w1 ⟨rfl, b1⟩
    go_wp2_with fail
    go_ret
    exact ⟨rfl, b1⟩
  | true =>
    have h32 := progOk_len hp
    rw [hp] at h1
    replace h1 := Lib.hid h1
    rw [Bool.true_and]
    have h2 := fun W B2 g us cap2 hu hul h hB h2 hB2 => sSeek_all (w := W) (B := B) (B2 := B2) (a := a) (a2 := g) (us := us) (cap := cap) (cap2 := cap2) hR hp h hB hu hul h2 hB2
    have H2 := Lib.hid h2
    have h3 := fun W (k : Nat) hk h hB => sNext_put B W a p cap k hl hk h hB
    have H3 := Lib.hid h3
    have hyn := fun k => nextL_rng hp k
    have HYN := Lib.hid hyn
    have hlen := fun f => boolsOf_len (p.length + 1) f
    have HLEN := Lib.hid hlen
    clear hp h2 h3 hyn hlen hR
    go_enter Try.func36, Try.ntmps36
    go_wp2_with fail
    refine h1.out.mono ?_
    rintro e w1 ⟨rfl, b1⟩
    have s1 := b1.size
    have B1 := Lib.hid (b1.alloc s1 (.cells #[.int .i64 0] 3))
    clear b1
    go_wp2_with fail
    refine (H2.out (w1.alloc (.cells #[.int .i64 0] 3)) _ ⟨w1.heap.size, 0, none⟩ [0] 1 (by intro u hu; rw [List.mem_singleton] at hu; omega) (by simp) (HH.out.kept (B1.out.mono hB)) (Nat.le_trans hB B1.out.size) (nums_one (by unfold i64R; omega)) (by simp)).mono ?_
    rintro e w2 ⟨g, rfl, o2, b2⟩
    have HO2 := Lib.hid (o2.base B1.out.size)
    have B2 := Lib.hid (B1.out.trans (b2.mono B1.out.size))
    rw [HLEN.out]
    clear o2 b2
    go_wp2_with fail
    go_loopw [4] (fun i wr => ∃ j : Nat, j ≤ p.length + 1 ∧ i = .int .i64 j ∧ Hid (∀ k ∈ (List.range (p.length + 1)).take j, (!(R [0] k && circQ p R k)) = true) ∧ OwnB 4 w.heap.size wr g (boolsOf (p.length + 1) (R [0])) ∧ Below w.heap.size w wr) (fun i _ => p.length + 1 - (intOf i).toNat)
    case atStart => exact ⟨0, Nat.zero_le _, rfl, (fun y hy => by simp at hy), HO2.out, B2.out⟩
    case round =>
      obtain ⟨j, hj, rfl, hr, hown, hb⟩ := hrel
      have hsz := hb.size
      have HO := Lib.hid hown
      have HB := Lib.hid hb
      by_cases hlt : j < p.length + 1
      · have hrl : j < (List.range (p.length + 1)).length := by rw [List.length_range]; exact hlt
        have Hno := Lib.hid (allT_no (f := fun k => !(R [0] k && circQ p R k)) hrl)
        have Hyes := Lib.hid (allT_take (f := fun k => !(R [0] k && circQ p R k)) hrl hr.out)
        rw [List.getElem_range] at Hno Hyes
        have hc := HO.out.cell j (by rw [HLEN.out]; omega)
        rw [boolsOf_at hlt] at hc
        clear hrl
        cases hf : R [0] j with
        | false =>
          rw [hf] at hc
          have HF := Lib.hid hf
          clear hf hown hb
          go_wp2_with fail
          go_roundw
          case rel => exact ⟨j + 1, hlt, by go_num, Hyes.out (by rw [HF.out]; rfl), HO.out, HB.out⟩
          case measure => simp [intOf]; omega
        | true =>
          rw [hf] at hc
          have HF := Lib.hid hf
          have h3 := H3.out wr j (by omega) (HH.out.kept (HB.out.mono hB)) (Nat.le_trans hB HB.out.size)
          have hcq : circQ p R j = R (nextL p j) j := rfl
          have hyl := nextL_le p j
          have hyr := HYN.out j
          have HYR := Lib.hid hyr
          generalize nextL p j = ys at *
          replace h3 := Lib.hid h3
          clear hf hown hb hyr
          go_wp2_with fail
          refine h3.out.mono ?_
          rintro e w3 ⟨g3, c3, rfl, o3, b3⟩
          have HB3 := Lib.hid (HB.out.trans (b3.mono hsz))
          have HO3 := Lib.hid (HO.out.below b3)
          have hn3 := o3.nums (rng_i64 (by omega) HYR.out) (Nat.le_refl _)
          have HN3 := Lib.hid hn3
          clear o3 b3 hn3
          go_wp2_with fail
          refine (H2.out w3 _ ⟨g3, 0, none⟩ ys c3 HYR.out (by omega) (HH.out.kept (HB3.out.mono hB)) (Nat.le_trans hB HB3.out.size) HN3.out (Nat.le_refl _)).mono ?_
          rintro e w4 ⟨g4, rfl, o4, b4⟩
          rw [HLEN.out]
          have HB4 := Lib.hid (HB3.out.trans (b4.mono HB3.out.size))
          have HO4 := Lib.hid (HO3.out.below b4)
          have hc4 := o4.cell j (by rw [HLEN.out]; omega)
          rw [boolsOf_at hlt, ← hcq] at hc4
          clear hcq o4 b4 hc
          cases hq : circQ p R j with
          | true =>
            rw [hq] at hc4
            have HQ := Lib.hid hq
            clear hq
            go_wp2_with fail
            go_ret
            refine ⟨ret_bool (Eq.symm (Hno.out ?_)), HB4.out⟩
            rw [HF.out, HQ.out]
            rfl
          | false =>
            rw [hq] at hc4
            have HQ := Lib.hid hq
            clear hq
            go_wp2_with fail
            go_roundw
            case rel => exact ⟨j + 1, hlt, by go_num, Hyes.out (by rw [HF.out, HQ.out]; rfl), HO4.out, HB4.out⟩
            case measure => simp [intOf]; omega
      · obtain rfl : j = p.length + 1 := by omega
        clear hown hb
        go_wp2_with fail
        go_ret
        refine ⟨ret_bool (Eq.symm (allT_yes (f := fun k => !(R [0] k && circQ p R k)) ?_)), HB.out⟩
        have h := hr.out
        rw [List.length_range]
        exact h

theorem two_same (b : Int) : (ascOf [b, b]).length = 1 := by
  have h2 := ascOf_asc [b, b]
  have h1 : Asc [b] := by simp [Asc]
  rw [asc_ext h2.1 h1 fun y => by rw [h2.2]; simp]
  rfl
theorem two_other {b c : Int} (h : b ≠ c) : (ascOf [b, c]).length = 2 := by
  have h2 := ascOf_asc [b, c]
  rcases Int.lt_or_gt_of_ne h with h3 | h3
  · have h1 : Asc [b, c] := by simp [Asc]; exact h3
    rw [asc_ext h2.1 h1 fun y => by rw [h2.2]]
    rfl
  · have h1 : Asc [c, b] := by simp [Asc]; exact h3
    rw [asc_ext h2.1 h1 fun y => by rw [h2.2]; simp only [List.mem_cons, List.not_mem_nil, or_false]; exact Or.comm]
    rfl
theorem isBr_at {p : List I4} {k : Nat} (hk : k < p.length) : isBr p k = (decide (p[k].o = 10) && !decide (p[k].b = (k : Int) + 1)) := by
  unfold isBr
  rw [nextL_at hk]
  generalize p[k] = x
  unfold nextI
  by_cases h12 : x.o = 12
  · rw [if_pos h12]; simp [h12]
  · rw [if_neg h12]
    by_cases h11 : x.o = 11
    · rw [if_pos h11]; simp [h11]
    · rw [if_neg h11]
      by_cases h10 : x.o = 10
      · rw [if_pos h10]
        by_cases hb : x.b = (k : Int) + 1
        · rw [hb, two_same]; simp
        · rw [two_other hb]; simp [h10, hb]
      · rw [if_neg h10]; simp [h10]

set_option maxRecDepth 100000 in
set_option maxHeartbeats 1000000 in
theorem sBranches_any (B : Nat) (w : World) (a : Option Addr) (p : List I4) (cap : Nat) (hl : p.length ≤ 10000000) (h : Nums B w a (flat p)) (hB : B ≤ w.heap.size) :
    Calls Try.prog 50 #[.slice a p.length cap] w (RowSaid (brQ p) w) := by
  obtain ⟨i0, hi0, hz0, hz1, hz2⟩ := info_parts info_int
  have h1 := fun W h hB => sProgramOk_any B W a p cap hl h hB
  have HH := Lib.hid h
  have e : brQ p = if progOk p = true then nodesTo (isBr p) p.length else [] := rfl
  rw [e]
  clear h e
  have hB0 := Lib.hid (below1 w (.cells #[] 3))
  have HO0 := Lib.hid (Own.made w [] rfl (Nat.le_refl _) rfl (by unfold maxLen; simp))
  cases hp : progOk p with
  | false =>
    rw [hp] at h1
    replace h1 := Lib.hid h1
    rw [if_neg (by simp)]
    clear hp
    go_enter Try.func50, Try.ntmps50
    go_wp2_with fail
    refine (h1.out _ (HH.out.kept (hB0.out.mono hB)) (Nat.le_trans hB hB0.out.size)).mono ?_
    rintro e w1 ⟨rfl, b1⟩
    have HB1 := Lib.hid (hB0.out.trans (b1.mono hB0.out.size))
    have HO1 := Lib.hid (HO0.out.below b1)
    clear b1
    go_wp2_with fail
    go_loopw [3, 5] (fun v i wr => i = .int .i64 0 ∧ v = .slice (some ⟨w.heap.size, 0, none⟩) 0 0 ∧ wr = w1) (fun _ i _ => 0)
    case atStart => exact ⟨rfl, rfl, rfl⟩
    case round =>
      obtain ⟨rfl, rfl, rfl⟩ := hrel
      by_cases hlt : 0 < p.length
      · go_wp2_with fail
        go_ret
        exact ⟨_, rfl, HO1.out, HB1.out⟩
      · go_wp2_with fail
        go_ret
        exact ⟨_, rfl, HO1.out, HB1.out⟩
  | true =>
    have h32 := progOk_len hp
    rw [hp] at h1
    replace h1 := Lib.hid h1
    rw [if_pos rfl]
    clear hp
    go_enter Try.func50, Try.ntmps50
    go_wp2_with fail
    refine (h1.out _ (HH.out.kept (hB0.out.mono hB)) (Nat.le_trans hB hB0.out.size)).mono ?_
    rintro e w1 ⟨rfl, b1⟩
    have HB1 := Lib.hid (hB0.out.trans (b1.mono hB0.out.size))
    have HO1 := Lib.hid (HO0.out.below b1)
    clear b1
    go_wp2_with fail
    go_loopw [3, 5] (fun v i wr => ∃ j : Nat, j ≤ p.length ∧ i = .int .i64 j ∧ Own w.heap.size wr v (nodesTo (isBr p) j) ∧ Below w.heap.size w wr) (fun _ i _ => p.length - (intOf i).toNat)
    case atStart => exact ⟨0, Nat.zero_le _, rfl, HO1.out, HB1.out⟩
    case round =>
      obtain ⟨j, hj, rfl, hown, hb⟩ := hrel
      have hsz := hb.size
      have HO := Lib.hid hown
      have HB := Lib.hid hb
      by_cases hlt : j < p.length
      · obtain ⟨g, off, rfl, hg, c0, c1, c2, c3⟩ := (HH.out.kept (HB.out.mono hB)).at4 j hlt
        have hbr := isBr_at hlt
        generalize p[j] = x at *
        obtain ⟨o, xa, b, c⟩ := x
        simp only at c0 c1 c2 c3 hbr
        by_cases h10 : o = 10
        · subst h10
          by_cases hbk : b = (j : Int) + 1
          · have HY := Lib.hid (nodesTo_no (f := isBr p) (k := j) (by rw [hbr, hbk]; simp))
            clear hbr hown hb
            subst hbk
            go_wp2_with fail
            go_roundw
            case rel => exact ⟨j + 1, hlt, by go_num, by rw [HY.out]; exact HO.out, HB.out⟩
            case measure => simp [intOf]; omega
          · have HY := Lib.hid (nodesTo_yes (f := isBr p) (k := j) (by rw [hbr]; simp [hbk]))
            have hbe : (b == (j : Int) + 1) = false := by simpa using hbk
            have hbn : (b != (j : Int) + 1) = true := by simpa using hbk
            have hle := nodesTo_le (isBr p) j
            generalize nodesTo (isBr p) j = xs at *
            clear hbr hbk hown hb
            go_wp2_with (at_builtin; refine wpList_append_own _ rfl _ _ 26 rfl w.heap.size 3 i0 (.int .i64 0) 1 8 Try.underlying26 hi0 hz0 hz1 hz2 rfl (by decide) _ _ _ rfl (World.ownsRow.alloc HO.out _) ⟨wr.heap.size, 0, none⟩ 1 1 [.int .i64 (j : Int)] rfl rfl (cell_one_new _ _ _) (by simp [Value.oneCell']) (by unfold maxLen; omega) (by omega) (by simp; omega) ?_; intro v' w4 hown4 hgrow _)
            have HN := Lib.hid (own_snoc HO.out HB.out hown4 hgrow)
            clear hown4 hgrow
            go_roundw
            case rel => exact ⟨j + 1, hlt, by go_num, by rw [HY.out]; exact HN.out.1, HN.out.2⟩
            case measure => simp [intOf]; omega
        · have HY := Lib.hid (nodesTo_no (f := isBr p) (k := j) (by rw [hbr]; simp [h10]))
          have h10e : (o == 10) = false := by simpa using h10
          clear hbr h10 hown hb
          go_wp2_with fail
          go_roundw
          case rel => exact ⟨j + 1, hlt, by go_num, by rw [HY.out]; exact HO.out, HB.out⟩
          case measure => simp [intOf]; omega
      · obtain rfl : j = p.length := by omega
        clear hown hb
        go_wp2_with fail
        go_ret
        exact ⟨_, rfl, HO.out, HB.out⟩

end Go.Proofs.Ytbnebghpakllpaa
