/- Flow graphs: the contracts of the program's AlwaysEnds and BranchesOf. -/
import Derived.Test.YtmiopbpahkgmbaaReachP
namespace Go.Proofs.Ytmiopbpahkgmbaa
open Go.RowKit Go

set_option maxRecDepth 100000 in
set_option maxHeartbeats 1000000 in
theorem pCircle_any (B : Nat) (w : World) (a : Option Addr) (p : List I4) (R : List Int → Nat → Bool) (hR : AllReach p R) (cap k : Nat) (hp : progOk p = true) (hk : k ≤ p.length) (h : Nums B w a (flat p)) (hB : B ≤ w.heap.size) :
    Calls Try.prog 68 #[.slice a p.length cap, .int .i64 k] w (Said (.bool (circQ p R k)) w) := by
  have h32 := progOk_len hp
  have HH := Lib.hid h
  have h1 := pSucc_any B w a p cap k (by omega) hk h hB
  have hyn := nextL_rng hp k
  have hyl := nextL_le p k
  have e : circQ p R k = (nextL p k).any fun y => R [y] k := any_reach hR (fun y hy => (hyn y hy).1) k
  rw [e]
  clear e h
  have h2 := fun W (m : Nat) hm h hB => pMarks_all (w := W) (B := B) (a := a) (cap := cap) (k := m) hR hp hm h hB
  have H2 := Lib.hid h2
  replace h1 := Lib.hid h1
  generalize nextL p k = ys at *
  have HYN := Lib.hid hyn
  clear h2 hyn hp hR
  go_enter Try.func68, Try.ntmps68
  go_wp2_with fail
  refine h1.out.mono ?_
  rintro e w1 ⟨vs, rfl, o1, b1⟩
  have s1 := b1.size
  have HO1 := Lib.hid o1
  have HB1 := Lib.hid b1
  obtain ⟨asl, csl, rfl⟩ := o1.form
  clear o1 b1
  go_wp2_with fail
  go_loopw [11] (fun i wr => ∃ j : Nat, j ≤ ys.length ∧ i = .int .i64 j ∧ Hid (∀ y ∈ ys.take j, R [y] k = false) ∧ Own w.heap.size wr (.slice asl ys.length csl) ys ∧ Below w.heap.size w wr) (fun i _ => ys.length - (intOf i).toNat)
  case atStart => exact ⟨0, Nat.zero_le _, rfl, (fun y hy => by simp at hy), HO1.out, HB1.out⟩
  case round =>
    obtain ⟨j, hj, rfl, hr, hown, hb⟩ := hrel
    have hsz := hb.size
    have HO := Lib.hid hown
    have HB := Lib.hid hb
    by_cases hlt : j < ys.length
    · obtain ⟨gs, rfl, _, _, hc⟩ := hown.cell j hlt
      have hmr := HYN.out _ (List.getElem_mem hlt)
      have Hyes := Lib.hid (anyT_yes (f := fun y => R [y] k) hlt)
      have Hno := Lib.hid (anyT_take (f := fun y => R [y] k) hlt hr.out)
      generalize ys[j] = y at *
      obtain ⟨m, rfl⟩ := Int.eq_ofNat_of_zero_le hmr.1
      have h3 := H2.out wr m (by omega) (HH.out.kept (HB.out.mono hB)) (Nat.le_trans hB HB.out.size)
      have hix := index_marks (R [(m : Int)]) k (by omega)
      generalize marksA (R [(m : Int)]) = A at *
      cases hf : R [(m : Int)] k with
      | true =>
        rw [hf] at hix
        have HF := Lib.hid hf
        replace h3 := Lib.hid h3
        clear hf hown hb
        go_wp2_with fail
        refine h3.out.mono ?_
        rintro e w2 ⟨rfl, b2⟩
        have HB2 := Lib.hid (HB.out.trans (b2.mono hsz))
        clear b2
        go_wp2_with fail
        go_ret
        exact ⟨ret_bool (Hyes.out HF.out).symm, HB2.out⟩
      | false =>
        rw [hf] at hix
        have HF := Lib.hid hf
        replace h3 := Lib.hid h3
        clear hf hown hb
        go_wp2_with fail
        refine h3.out.mono ?_
        rintro e w2 ⟨rfl, b2⟩
        have HB2 := Lib.hid (HB.out.trans (b2.mono hsz))
        have HO2 := Lib.hid (HO.out.below b2)
        clear b2
        go_wp2_with fail
        go_roundw
        case rel => exact ⟨j + 1, hlt, by go_num, Hno.out HF.out, HO2.out, HB2.out⟩
        case measure => simp [intOf]; omega
    · obtain rfl : j = ys.length := by omega
      clear hown hb
      go_wp2_with fail
      go_ret
      exact ⟨ret_bool (anyT_no (f := fun y => R [y] k) hr.out).symm, HB.out⟩

theorem endsQ_nodes (p : List I4) (R : List Int → Nat → Bool) : endsQ p R = (progOk p && (nodesTo (R [0]) (p.length + 1)).all fun y => !circQ p R y.toNat) := by
  unfold endsQ nodesTo
  rw [List.all_map, List.all_filter]
  congr 2
  funext k
  simp only [Function.comp, Int.toNat_natCast, Bool.not_and]

set_option maxRecDepth 100000 in
set_option maxHeartbeats 1000000 in
theorem pEnds_any (B : Nat) (w : World) (a : Option Addr) (p : List I4) (R : List Int → Nat → Bool) (hR : AllReach p R) (cap : Nat) (hl : p.length ≤ 10000000) (h : Nums B w a (flat p)) (hB : B ≤ w.heap.size) :
    Calls Try.prog 29 #[.slice a p.length cap] w (Said (.bool (endsQ p R)) w) := by
  have h1 := pProgramOk_any B w a p cap hl h hB
  have HH := Lib.hid h
  rw [endsQ_nodes]
  clear h
  cases hp : progOk p with
  | false =>
    rw [hp] at h1
    replace h1 := Lib.hid h1
    rw [Bool.false_and]
    clear hp hR
    go_enter Try.func29, Try.ntmps29
    go_wp2_with fail
    refine h1.out.mono ?_
    rintro e w1 ⟨rfl, b1⟩
    go_wp2_with fail
    go_ret
    exact ⟨rfl, b1⟩
  | true =>
    rw [hp] at h1
    replace h1 := Lib.hid h1
    rw [Bool.true_and]
    have h2 := fun W h hB => pReachable_any B W a p R hR cap 0 hl h hB
    have e : reachQ p R 0 = nodesTo (R [0]) (p.length + 1) := by unfold reachQ; rw [if_pos (nodeOk_iff.2 ⟨hp, by omega, by omega⟩)]
    rw [e] at h2
    have H2 := Lib.hid h2
    have h3 := fun W (k : Nat) hk h hB => pCircle_any B W a p R hR cap k hp hk h hB
    have H3 := Lib.hid h3
    have hxs : ∀ x ∈ nodesTo (R [0]) (p.length + 1), 0 ≤ x ∧ x ≤ p.length := fun x hx => by obtain ⟨i, h1, _, rfl⟩ := nodesTo_mem.1 hx; omega
    have hxl := nodesTo_le (R [0]) (p.length + 1)
    generalize nodesTo (R [0]) (p.length + 1) = xs at *
    have HXS := Lib.hid hxs
    clear hp hR e h2 h3 hxs
    go_enter Try.func29, Try.ntmps29
    go_wp2_with fail
    refine h1.out.mono ?_
    rintro e w1 ⟨rfl, b1⟩
    have s1 := b1.size
    have HB1 := Lib.hid b1
    clear b1
    go_wp2_with fail
    refine (H2.out _ (HH.out.kept (HB1.out.mono hB)) (Nat.le_trans hB HB1.out.size)).mono ?_
    intro e w2 hr
    obtain ⟨vs, rfl, o2, b2⟩ := row_said hr rfl HB1.out
    have HO2 := Lib.hid o2
    have HB2 := Lib.hid b2
    obtain ⟨asl, csl, rfl⟩ := o2.form
    clear hr o2 b2
    go_wp2_with fail
    go_loopw [11] (fun i wr => ∃ j : Nat, j ≤ xs.length ∧ i = .int .i64 j ∧ Hid (∀ x ∈ xs.take j, (!circQ p R x.toNat) = true) ∧ Own w.heap.size wr (.slice asl xs.length csl) xs ∧ Below w.heap.size w wr) (fun i _ => xs.length - (intOf i).toNat)
    case atStart => exact ⟨0, Nat.zero_le _, rfl, (fun y hy => by simp at hy), HO2.out, HB2.out⟩
    case round =>
      obtain ⟨j, hj, rfl, hr, hown, hb⟩ := hrel
      have hsz := hb.size
      have HO := Lib.hid hown
      have HB := Lib.hid hb
      by_cases hlt : j < xs.length
      · obtain ⟨gs, rfl, _, _, hc⟩ := hown.cell j hlt
        have hmr := HXS.out _ (List.getElem_mem hlt)
        have Hno := Lib.hid (allT_no (f := fun y : Int => !circQ p R y.toNat) hlt)
        have Hyes := Lib.hid (allT_take (f := fun y : Int => !circQ p R y.toNat) hlt hr.out)
        generalize xs[j] = y at *
        obtain ⟨m, rfl⟩ := Int.eq_ofNat_of_zero_le hmr.1
        have h3 := H3.out wr m (by omega) (HH.out.kept (HB.out.mono hB)) (Nat.le_trans hB HB.out.size)
        cases hf : circQ p R m with
        | true =>
          rw [hf] at h3
          have HF := Lib.hid hf
          replace h3 := Lib.hid h3
          clear hf hown hb
          go_wp2_with fail
          refine h3.out.mono ?_
          rintro e w2 ⟨rfl, b2⟩
          have HB2 := Lib.hid (HB.out.trans (b2.mono hsz))
          clear b2
          go_wp2_with fail
          go_ret
          exact ⟨ret_bool (Hno.out (by rw [Int.toNat_natCast, HF.out]; rfl)).symm, HB2.out⟩
        | false =>
          rw [hf] at h3
          have HF := Lib.hid hf
          replace h3 := Lib.hid h3
          clear hf hown hb
          go_wp2_with fail
          refine h3.out.mono ?_
          rintro e w2 ⟨rfl, b2⟩
          have HB2 := Lib.hid (HB.out.trans (b2.mono hsz))
          have HO2 := Lib.hid (HO.out.below b2)
          clear b2
          go_wp2_with fail
          go_roundw
          case rel => exact ⟨j + 1, hlt, by go_num, Hyes.out (by rw [Int.toNat_natCast, HF.out]; rfl), HO2.out, HB2.out⟩
          case measure => simp [intOf]; omega
      · obtain rfl : j = xs.length := by omega
        clear hown hb
        go_wp2_with fail
        go_ret
        exact ⟨ret_bool (allT_yes (f := fun y : Int => !circQ p R y.toNat) hr.out).symm, HB.out⟩

end Go.Proofs.Ytmiopbpahkgmbaa
