/- Joins: the program's JoinOf, JoinsOf. -/
import Derived.Test.YtbnebghpakllpaaAfterF
import Derived.Test.YtbnebghpakllpaaJoinM
import Derived.Test.YtbnebghpakllpaaEndsP
namespace Go.Proofs.Ytbnebghpakllpaa
open Go.RowKit Go

set_option maxRecDepth 100000 in
set_option maxHeartbeats 400000 in
theorem pIndex_any (w : World) (B : Nat) (a : Option Addr) (xs : List Int) (cap : Nat) (v : Int) (hl : xs.length ≤ 1000000) (h : Nums B w a xs) :
    Calls Try.prog 74 #[.slice a xs.length cap, .int .i64 v] w (fun e w' => ∃ r : Int, e = .returned (.int .i64 r) ∧ decide (0 ≤ r) = inL xs v ∧ w = w') := by
  have HH := Lib.hid h
  clear h
  go_enter Try.func74, Try.ntmps74
  go_wp2_with fail
  go_loop [5, 8] (fun _ i => ∃ k : Nat, k ≤ xs.length ∧ i = .int .i64 k ∧ ∀ x ∈ xs.take k, (x == v) = false) (fun _ i => xs.length - (intOf i).toNat)
  case atStart => exact ⟨0, Nat.zero_le _, rfl, by simp⟩
  case round =>
    obtain ⟨k, hk, rfl, hr⟩ := hrel
    have HR := Lib.hid hr
    clear hr
    by_cases hlt : k < xs.length
    · obtain ⟨g, off, rfl, _, hc⟩ := HH.out.2 k hlt
      have Hno := Lib.hid (has_no (v := v) hlt HR.out)
      have Hyes := Lib.hid (has_yes (v := v) hlt)
      generalize xs[k] = x at *
      cases hx : (x == v) with
      | true =>
        have hx2 : (v == x) = true := by rw [beq_iff_eq] at hx ⊢; exact hx.symm
        have HY := Lib.hid (Hyes.out hx)
        clear hx
        go_wp2_with fail
        go_ret
        exact ⟨(k : Int), rfl, by rw [HY.out]; simp, rfl⟩
      | false =>
        have hx2 : (v == x) = false := by rw [beq_eq_false_iff_ne] at hx ⊢; exact hx.symm
        have HN := Lib.hid (Hno.out hx)
        clear hx
        go_wp2_with fail
        go_round
        case rel => exact ⟨k + 1, hlt, by go_num, HN.out⟩
        case measure => simp [intOf]; omega
    · obtain rfl : k = xs.length := by omega
      go_wp2_with fail
      go_ret
      exact ⟨-1, rfl, by rw [has_none HR.out]; simp, rfl⟩

set_option maxRecDepth 100000 in
set_option maxHeartbeats 400000 in
theorem pContains_any (w : World) (B : Nat) (a : Option Addr) (xs : List Int) (cap : Nat) (v : Int) (hl : xs.length ≤ 1000000) (h : Nums B w a xs) :
    Calls Try.prog 53 #[.slice a xs.length cap, .int .i64 v] w (fun e w' => e = .returned (.bool (inL xs v)) ∧ w = w') := by
  have h1 := Lib.hid (pIndex_any w B a xs cap v hl h)
  clear h
  generalize inL xs v = t at *
  go_enter Try.func53, Try.ntmps53
  go_wp2_with fail
  refine h1.out.mono ?_
  rintro e w1 ⟨r, rfl, hr, rfl⟩
  have HR := Lib.hid hr
  clear hr
  go_wp2_with fail
  go_ret
  exact ⟨ret_boolH HR.out, rfl⟩

set_option maxRecDepth 100000 in
set_option maxHeartbeats 1000000 in
theorem pJoinOf_any (B : Nat) (w : World) (a : Option Addr) (p : List I4) (R : List Int → Nat → Bool) (hR : AllReach p R) (RA : List Int → Int → Nat → Bool) (hRA : AllAvoid p RA) (cap : Nat) (b : Int) (hl : p.length ≤ 10000000) (h : Nums B w a (flat p)) (hB : B ≤ w.heap.size) :
    Calls Try.prog 24 #[.slice a p.length cap, .int .i64 b] w (Said (.int .i64 (joinOfQ p R RA b)) w) := by
  have h1 := Lib.hid (pBranches_any B w a p cap hl h hB)
  have HH := Lib.hid h
  have e : joinOfQ p R RA b = if inL (brQ p) b = true then joinB p R RA b else -1 := rfl
  rw [e]
  obtain ⟨hbr, hbl⟩ := brQ_small (p := p)
  have HBR := Lib.hid hbr
  cases hin : inL (brQ p) b with
  | false =>
    have HIN := Lib.hid hin
    rw [if_neg (by simp)]
    generalize brQ p = bs at *
    clear h hR hRA e hbr hin
    go_enter Try.func24, Try.ntmps24
    go_wp2_with fail
    refine h1.out.mono ?_
    rintro e w1 ⟨v, rfl, o1, b1⟩
    obtain ⟨a1, c1, rfl⟩ := o1.form
    have HO1 := Lib.hid (o1.readA (rng_small hl HBR.out))
    have B1 := Lib.hid b1
    clear o1 b1
    go_wp2_with fail
    refine (pContains_any w1 w1.heap.size a1 bs c1 b (by omega) HO1.out).mono ?_
    rw [HIN.out]
    rintro e w2 ⟨rfl, rfl⟩
    go_wp2_with fail
    go_ret
    exact ⟨rfl, B1.out⟩
  | true =>
    have HIN := Lib.hid hin
    obtain ⟨hp, k, rfl, hk, hkb⟩ := br_mem.1 hin
    rw [if_pos rfl]
    have e2 : joinB p R RA k = if (nextL p k).all (exitQ p R) = true then firstQ p R RA k else p.length := by unfold joinB; rw [Int.toNat_natCast]
    rw [e2]
    clear e2
    have h2 := Lib.hid (fun W hB => fun h => pSucc_any B W a p cap k hl (by omega) h hB)
    have h3 := Lib.hid (fun W m hB => fun h => pReachesExit_any B W a p R hR cap m hl h hB)
    have h4 := Lib.hid (fun W hB => fun h => pFirstAfter_any B W a p R hR RA hRA cap k hl h hB)
    have hyr := nextL_rng hp k
    have hyl := nextL_le p k
    generalize nextL p k = ys at *
    generalize brQ p = bs at *
    have HYR := Lib.hid hyr
    generalize hV : (if ys.all (exitQ p R) = true then firstQ p R RA k else (p.length : Int)) = V
    have HV := Lib.hid hV
    clear h hR hRA e hbr hin hp hk hkb hyr hV
    go_enter Try.func24, Try.ntmps24
    go_wp2_with fail
    refine h1.out.mono ?_
    rintro e w1 ⟨v, rfl, o1, b1⟩
    obtain ⟨a1, c1, rfl⟩ := o1.form
    have HO1 := Lib.hid (o1.readA (rng_small hl HBR.out))
    have B1 := Lib.hid b1
    clear o1 b1
    go_wp2_with fail
    refine (pContains_any w1 w1.heap.size a1 bs c1 k (by omega) HO1.out).mono ?_
    rw [HIN.out]
    rintro e w2 ⟨rfl, rfl⟩
    go_wp2_with fail
    refine (h2.out _ (Nat.le_trans hB B1.out.size) (HH.out.kept (B1.out.mono hB))).mono ?_
    rintro e w3 ⟨v3, rfl, o3, b3⟩
    obtain ⟨a3, c3, rfl⟩ := o3.form
    have HO3 := Lib.hid (o3.readA (rng_small hl HYR.out))
    have B3 := Lib.hid (B1.out.trans (b3.mono B1.out.size))
    have s3 := B3.out.size
    clear o3 b3
    go_wp2_with fail
    go_loopw [6, 16] (fun _ i wr => ∃ j : Nat, j ≤ ys.length ∧ i = .int .i64 j ∧ Hid (∀ x ∈ ys.take j, exitQ p R x = true) ∧ Below w3.heap.size w3 wr) (fun _ i _ => ys.length - (intOf i).toNat)
    case atStart => exact ⟨0, Nat.zero_le _, rfl, (fun x hx => by simp at hx), Below.refl _ _⟩
    case round =>
      obtain ⟨j, hj, rfl, hr, hb⟩ := hrel
      have hsz := hb.size
      have HB := Lib.hid hb
      have HW := Lib.hid (B3.out.trans (HB.out.mono s3))
      clear hb
      by_cases hlt : j < ys.length
      · obtain ⟨g, off, rfl, hg, hc⟩ := (HO3.out.kept HB.out).2 j hlt
        have Hno := Lib.hid (allT_no (f := exitQ p R) hlt)
        have Hyes := Lib.hid (allT_take (f := exitQ p R) hlt hr.out)
        generalize ys[j] = x at *
        have h5 := Lib.hid (h3.out _ x (Nat.le_trans hB HW.out.size) (HH.out.kept (HW.out.mono hB)))
        cases hx : exitQ p R x with
        | false =>
          rw [hx] at h5
          have HN := Lib.hid (Hno.out hx)
          clear hx
          go_wp2_with fail
          refine h5.out.mono ?_
          rintro e w5 ⟨rfl, b5⟩
          have B5 := Lib.hid (HW.out.trans (b5.mono HW.out.size))
          clear b5
          go_wp2_with fail
          go_ret
          exact ⟨by rw [← HV.out, HN.out]; rfl, B5.out⟩
        | true =>
          rw [hx] at h5
          have HN := Lib.hid (Hyes.out hx)
          clear hx
          go_wp2_with fail
          refine h5.out.mono ?_
          rintro e w5 ⟨rfl, b5⟩
          have B5 := Lib.hid (HB.out.trans (b5.mono hsz))
          clear b5
          go_wp2_with fail
          go_roundw
          case rel => exact ⟨j + 1, hlt, by go_num, HN.out, B5.out⟩
          case measure => simp [intOf]; omega
      · obtain rfl : j = ys.length := by omega
        have HN := Lib.hid (allT_yes (f := exitQ p R) hr.out)
        have h5 := Lib.hid (h4.out _ (Nat.le_trans hB HW.out.size) (HH.out.kept (HW.out.mono hB)))
        go_wp2_with fail
        refine h5.out.mono ?_
        rintro e w5 ⟨rfl, b5⟩
        have B5 := Lib.hid (HW.out.trans (b5.mono HW.out.size))
        clear b5
        go_wp2_with fail
        go_ret
        exact ⟨by rw [← HV.out, HN.out]; rfl, B5.out⟩

/-- The row of the joins while it is filled in place. -/
def fillB (J : Int → Int) (bs : List Int) (j : Nat) : List Int := (bs.take j).map J ++ bs.drop j
theorem fillB_len (J : Int → Int) (bs : List Int) (j : Nat) (hj : j ≤ bs.length) : (fillB J bs j).length = bs.length := by
  unfold fillB; rw [List.length_append, List.length_map, List.length_take, List.length_drop]; omega
theorem fillB_zero (J : Int → Int) (bs : List Int) : fillB J bs 0 = bs := rfl
theorem fillB_all (J : Int → Int) (bs : List Int) : fillB J bs bs.length = bs.map J := by
  unfold fillB; rw [List.take_length, List.drop_length, List.append_nil]
theorem fillB_at (J : Int → Int) (bs : List Int) (j : Nat) (hj : j < bs.length) : (fillB J bs j)[j]? = some bs[j] := by
  unfold fillB
  rw [List.getElem?_append_right (by rw [List.length_map, List.length_take]; omega), List.length_map, List.length_take, Nat.min_eq_left (by omega), Nat.sub_self, List.getElem?_drop, Nat.add_zero, List.getElem?_eq_getElem hj]
theorem fillB_set (J : Int → Int) (bs : List Int) (j : Nat) (hj : j < bs.length) : (fillB J bs j).set j (J bs[j]) = fillB J bs (j + 1) := by
  unfold fillB
  rw [List.set_append_right _ _ (by rw [List.length_map, List.length_take]; omega), List.length_map, List.length_take, Nat.min_eq_left (by omega), Nat.sub_self, List.drop_eq_getElem_cons hj, List.set_cons_zero, List.take_succ_eq_append_getElem hj, List.map_append, List.append_assoc]
  rfl

set_option maxRecDepth 100000 in
set_option maxHeartbeats 1000000 in
theorem pJoins_any (B : Nat) (w : World) (a : Option Addr) (p : List I4) (R : List Int → Nat → Bool) (hR : AllReach p R) (RA : List Int → Int → Nat → Bool) (hRA : AllAvoid p RA) (cap : Nat) (hl : p.length ≤ 10000000) (h : Nums B w a (flat p)) (hB : B ≤ w.heap.size) :
    Calls Try.prog 20 #[.slice a p.length cap] w (RowSaid (joinsQ p R RA) w) := by
  have HH := Lib.hid h
  have h1 := Lib.hid (pBranches_any B w a p cap hl h hB)
  have e : joinsQ p R RA = (brQ p).map (joinB p R RA) := rfl
  rw [e]
  obtain ⟨hbr, hbl⟩ := brQ_small (p := p)
  have hj : ∀ b ∈ brQ p, Hid (∀ W, Nums B W a (flat p) → B ≤ W.heap.size → Calls Try.prog 24 #[.slice a p.length cap, .int .i64 b] W (Said (.int .i64 (joinB p R RA b)) W)) := fun b hm => fun W h hB => by
    have := pJoinOf_any B W a p R hR RA hRA cap b hl h hB
    unfold joinOfQ at this
    rwa [if_pos (show inL (brQ p) b = true by unfold inL; rw [List.contains_iff_mem]; exact hm)] at this
  have HJ := Lib.hid hj
  generalize brQ p = bs at *
  generalize joinB p R RA = J at *
  clear h hR hRA e hbr hj
  go_enter Try.func20, Try.ntmps20
  go_wp2_with fail
  refine h1.out.mono ?_
  rintro e w1 ⟨v, rfl, o1, b1⟩
  have HO1 := Lib.hid o1
  have HB1 := Lib.hid b1
  obtain ⟨a1, c1, rfl⟩ := o1.form
  clear o1 b1
  go_wp2_with fail
  go_loopw [4, 5, 10] (fun _ _ i wr => ∃ j : Nat, j ≤ bs.length ∧ i = .int .i64 j ∧ Own w.heap.size wr (.slice a1 bs.length c1) (fillB J bs j) ∧ Below w.heap.size w wr) (fun _ _ i _ => bs.length - (intOf i).toNat)
  case atStart => exact ⟨0, Nat.zero_le _, rfl, HO1.out, HB1.out⟩
  case round =>
    obtain ⟨j, hj, rfl, hown, hb⟩ := hrel
    have hsz := hb.size
    have HO := Lib.hid hown
    have HB := Lib.hid hb
    by_cases hlt : j < bs.length
    · have hfl := fillB_len J bs j hj
      obtain ⟨g, rfl, hgB, hg, hc⟩ := hown.cell j (by omega)
      rw [(List.getElem?_eq_some_iff.1 (fillB_at J bs j hlt)).2] at hc
      have HS := Lib.hid (fillB_set J bs j hlt)
      have h3 := Lib.hid ((HJ.out _ (List.getElem_mem hlt)).out wr (HH.out.kept (HB.out.mono hB)) (Nat.le_trans hB HB.out.size))
      generalize bs[j] = x at *
      generalize J x = y at *
      generalize fillB J bs j = ys at *
      clear hown hb
      go_wp2_with fail
      refine h3.out.mono ?_
      rintro e w2 ⟨rfl, b2⟩
      have HB2 := Lib.hid (HB.out.trans (b2.mono hsz))
      have ho3 := HO.out.below b2
      have HO3 := Lib.hid ho3
      have hg2 : g < w2.heap.size := Nat.lt_of_lt_of_le hg b2.size
      have hc2 : w2.cell? ⟨g, j, none⟩ = some (.int .i64 x) := by rw [b2.cell (p := ⟨g, j, none⟩) hg]; exact hc
      have hf2 := ho3.frozen j
      have HO4 := Lib.hid (ho3.stored j y)
      clear b2 ho3 hc
      go_wp2_with fail
      go_roundw
      case rel => exact ⟨j + 1, hlt, by go_num, by rw [← HS.out]; exact HO4.out, HB2.out.setCell hgB _⟩
      case measure => simp [intOf]; omega
    · obtain rfl : j = bs.length := by omega
      rw [fillB_all] at HO
      clear hown hb
      go_wp2_with fail
      go_ret
      exact ⟨_, rfl, HO.out, HB.out⟩

end Go.Proofs.Ytbnebghpakllpaa
