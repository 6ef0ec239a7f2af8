/- FnJoins: a join lies behind both ways of its branch and not between them. -/
import Derived.Test.YtbnebghpakllpaaInsideQ
import Derived.Test.YtbnebghpakllpaaFnReach
import Derived.Test.YtbnebghpakllpaaTakes
namespace Go.Proofs.Ytbnebghpakllpaa
open Go.RowKit Go

set_option maxRecDepth 100000 in
set_option maxHeartbeats 1000000 in
theorem same_any (B : Nat) (w : World) (a1 a2 : Option Addr) (xs : List Int) (n c1 c2 : Nat) (hn : xs.length = n) (hl : n ≤ 10000000) (h1 : Nums B w a1 xs) (h2 : Nums B w a2 xs) (hB : B ≤ w.heap.size) :
    Calls Try.prog 21 #[.slice a1 n c1, .slice a2 n c2] w (Said (.bool true) w) := by
  have H1 := Lib.hid h1
  have H2 := Lib.hid h2
  have HN := Lib.hid hn
  clear h1 h2 hn
  go_enter Try.func21, Try.ntmps21
  go_wp2_with fail
  go_loopw [5] (fun i wr => ∃ k : Nat, k ≤ n ∧ i = .int .i64 k ∧ Below w.heap.size w wr) (fun i _ => n - (intOf i).toNat)
  case atStart => exact ⟨0, Nat.zero_le _, rfl, Below.refl _ _⟩
  case round =>
    obtain ⟨k, hk, rfl, hb⟩ := hrel
    have HB := Lib.hid hb
    have hsz := hb.size
    clear hb
    by_cases hlt : k < n
    · have hlt2 : k < xs.length := by rw [HN.out]; exact hlt
      obtain ⟨g1, o1, rfl, hg1, hc1⟩ := (H1.out.kept (HB.out.mono hB)).2 k hlt2
      obtain ⟨g2, o2, rfl, hg2, hc2⟩ := (H2.out.kept (HB.out.mono hB)).2 k hlt2
      generalize xs[k] = x at *
      have k0 : (0 : Int) ≤ (k : Int) := Int.natCast_nonneg _
      have k1 : (k : Int) < (n : Int) := by omega
      clear hlt2
      go_wp2_with fail
      go_quiet (fail)
      go_wp2_with fail
      go_roundw
      case rel => exact ⟨k + 1, hlt, by go_num, HB.out.trans (below_drewN _ _ _)⟩
      case measure => simp [intOf]; omega
    · obtain rfl : k = n := by omega
      go_wp2_with fail
      go_ret
      exact ⟨rfl, HB.out⟩

theorem joins_in {p : List I4} {R : List Int → Nat → Bool} (hR : AllReach p R) {RA : List Int → Int → Nat → Bool} (hRA : AllAvoid p RA) : (∀ x ∈ joinsQ p R RA, 0 ≤ x ∧ x ≤ p.length) ∧ (joinsQ p R RA).length ≤ 32 := by
  constructor
  · intro x hx
    unfold joinsQ at hx
    obtain ⟨b, hb, rfl⟩ := List.mem_map.1 hx
    obtain ⟨j, e, hj⟩ := join_nat hR hRA (show inL (brQ p) b = true by unfold inL; rw [List.contains_iff_mem]; exact hb)
    rw [e]
    omega
  · unfold joinsQ
    rw [List.length_map]
    exact brQ_small.2
theorem joins_get {p : List I4} {R : List Int → Nat → Bool} {RA : List Int → Int → Nat → Bool} {k : Nat} (hk : k < (brQ p).length) : ∃ h : k < (joinsQ p R RA).length, (joinsQ p R RA)[k] = joinB p R RA (brQ p)[k] := by
  unfold joinsQ
  exact ⟨by rw [List.length_map]; exact hk, List.getElem_map _⟩

set_option maxRecDepth 100000 in
set_option maxHeartbeats 40000000 in
theorem fnJoins_any (a : Option Addr) (len cap : Nat) (zs : List Int) (w : World) (hr : IsRow .u8 w a len cap zs) :
    Calls Try.prog 4 #[.slice a len cap] w fun e w' => e = .returned (.bool true) ∧ Below w.heap.size w w' := by
  have hl := hr.bytes.2
  have HBy := Lib.hid hr.bytes.1
  have HL := Lib.hid hl
  clear hr
  by_cases hbig : 1048576 < len
  · have HD := Lib.hid (show decide (1048576 < (len : Int)) = true by simp; omega)
    clear hl hbig
    go_enter Try.func4, Try.ntmps4
    go_wp2_with fail
    refine (big_any _ _ _ _).mono ?_
    rw [HD.out]
    rintro e w' ⟨rfl, rfl⟩
    go_wp2_with fail
    go_ret
    exact ⟨rfl, Below.refl _ _⟩
  · have HD := Lib.hid (show decide (1048576 < (len : Int)) = false by simp; omega)
    clear hl hbig
    go_enter Try.func4, Try.ntmps4
    go_wp2_with fail
    refine (big_any _ _ _ _).mono ?_
    rw [HD.out]
    rintro e w' ⟨rfl, rfl⟩
    go_wp2_with fail
    refine (drawWild_any _ _ _ _ HL.out HBy.out).mono ?_
    rintro e w1 ⟨a1, c1, p, rfl, hp, hp8, o1, b1⟩
    have s1 := b1.size
    have HN1 := Lib.hid (o1.nums (progOk_rng hp) (Nat.le_refl _))
    have HB1 := Lib.hid b1
    have HP := Lib.hid hp
    obtain ⟨R, hR⟩ := exists_all p
    obtain ⟨RA, hRA⟩ := exists_avoid p
    have HR := Lib.hid hR
    have HRA := Lib.hid hRA
    clear o1 b1 hR hRA hp
    go_wp2_with fail
    refine (pBranches_any _ _ a1 p c1 (by omega) HN1.out (Nat.le_refl _)).mono ?_
    rintro e w2 ⟨v2, rfl, o2, b2⟩
    have s2 := b2.size
    obtain ⟨hbx, hbl⟩ := brQ_small (p := p)
    have HBX := Lib.hid hbx
    have HBR := Lib.hid (fun (x : Int) (hx : x ∈ brQ p) => (show inL (brQ p) x = true by unfold inL; rw [List.contains_iff_mem]; exact hx))
    have hjl : (joinsQ p R RA).length = (brQ p).length := List.length_map _
    obtain ⟨hjx, _⟩ := joins_in HR.out HRA.out
    have HJX := Lib.hid hjx
    have h2 := Lib.hid (fun W h hB => pJoins_any w1.heap.size W a1 p R HR.out RA HRA.out c1 (by omega) h hB)
    have h3 := Lib.hid (fun W h hB => sJoins_any w1.heap.size W a1 p R HR.out RA HRA.out c1 (by omega) h hB)
    have HJG := Lib.hid (fun k (hk : k < (brQ p).length) => joins_get (R := R) (RA := RA) hk)
    have HBM := Lib.hid (fun x => br_mem (p := p) (b := x))
    generalize joinsQ p R RA = js at *
    generalize hbs : brQ p = bs at *
    have HBS := Lib.hid hbs
    have HJL := Lib.hid hjl
    obtain ⟨a2, c2, rfl⟩ := o2.form
    have HO2 := Lib.hid (o2.readA (rng_small (by omega) HBX.out))
    have HN2 := Lib.hid (HN1.out.kept b2)
    have HB2 := Lib.hid (HB1.out.trans (b2.mono s1))
    clear o2 b2 hbx hjl hjx hbs
    go_wp2_with fail
    refine (h2.out _ HN2.out s2).mono ?_
    rintro e w3 ⟨v3, rfl, o3, b3⟩
    have s3 := b3.size
    obtain ⟨a3, c3, e3⟩ := o3.form
    rw [HJL.out] at e3
    subst e3
    have HN3 := Lib.hid (HN2.out.kept (b3.mono s2))
    have HO3 := Lib.hid (HO2.out.kept b3)
    have HJ3 := Lib.hid (o3.readA (rng_small (by omega) HJX.out))
    have HB3 := Lib.hid (HB2.out.trans (b3.mono (by omega)))
    clear o3 b3
    go_wp2_with fail
    refine (h3.out _ HN3.out (by omega)).mono ?_
    rintro e w4 ⟨v4, rfl, o4, b4⟩
    have s4 := b4.size
    obtain ⟨a4, c4, e4⟩ := o4.form
    rw [HJL.out] at e4
    subst e4
    have HN4 := Lib.hid (HN3.out.kept (b4.mono (by omega)))
    have HO4 := Lib.hid (HO3.out.kept (b4.mono (by omega)))
    have HJ4 := Lib.hid (HJ3.out.kept b4)
    have HJ4b := Lib.hid (o4.readA (rng_small (by omega) HJX.out))
    have HB4 := Lib.hid (HB3.out.trans (b4.mono (by omega)))
    clear o4 b4
    go_wp2_with fail
    refine (same_any w4.heap.size w4 a3 a4 js bs.length c3 c4 HJL.out (by omega) (HJ4.out.more s4) HJ4b.out (Nat.le_refl _)).mono ?_
    rintro e w5 ⟨rfl, b5⟩
    have s5 := b5.size
    have HN5 := Lib.hid (HN4.out.kept (b5.mono (by omega)))
    have HO5 := Lib.hid ((HO4.out.kept (b5.mono (by omega))).more (show w2.heap.size ≤ w5.heap.size by omega))
    have HJ5 := Lib.hid ((HJ4.out.kept (b5.mono (by omega))).more (show w3.heap.size ≤ w5.heap.size by omega))
    have HB5 := Lib.hid (HB4.out.trans (b5.mono (by omega)))
    clear b5 HN2 HN3 HN4 HO2 HO3 HO4 HJ3 HJ4 HJ4b HB2 HB3 HB4 h2 h3
    go_wp2_with fail
    go_loopw [6] (fun i wr => ∃ k : Nat, k ≤ bs.length ∧ i = .int .i64 k ∧ Below w5.heap.size w5 wr) (fun i _ => bs.length - (intOf i).toNat)
    case atStart => exact ⟨0, Nat.zero_le _, rfl, Below.refl _ _⟩
    case round =>
      obtain ⟨k, hk, rfl, hb⟩ := hrel
      have sr := hb.size
      have HB := Lib.hid hb
      clear hb
      by_cases hlt : k < bs.length
      · obtain ⟨gb, ob, ha2, hgb, hcb⟩ := (HO5.out.kept HB.out).2 k hlt
        obtain ⟨hkj, hjk⟩ := HJG.out k hlt
        obtain ⟨gj, oj, ha3, hgj, hcj⟩ := (HJ5.out.kept HB.out).2 k hkj
        rw [hjk] at hcj
        have hin := HBR.out _ (List.getElem_mem hlt)
        obtain ⟨hp, b, eb, hbn, hbr⟩ := (HBM.out _).1 hin
        rw [eb] at hcb hcj hin
        obtain ⟨j, ej, hjn, hja⟩ := join_node HR.out HRA.out HP.out hbn hbr
        rw [ej] at hcj
        subst ha2 ha3
        have HIN := Lib.hid (show inL (brQ p) (b : Int) = true by rw [HBS.out]; exact hin)
        have HJA := Lib.hid hja
        have HEJ := Lib.hid ej
        have k0 : (0 : Int) ≤ (k : Int) := Int.natCast_nonneg _
        have k1 : (k : Int) < (bs.length : Int) := by omega
        have hgjl : gj < wr.heap.size := by omega
        have hgbl : gb < wr.heap.size := by omega
        have hbr0 : (0 : Int) ≤ (b : Int) ∧ (b : Int) ≤ (p.length : Int) := by omega
        have h6 := pNextOf_any w1.heap.size wr a1 p c1 b (by omega) (HN5.out.kept (HB.out.mono (by omega))) (by omega)
        have e6 : nextQ p (b : Int) = nextL p b := by unfold nextQ; rw [if_pos (nodeOk_iff.2 ⟨HP.out, by omega, by omega⟩), Int.toNat_natCast]
        rw [e6] at h6
        have HNR := Lib.hid (nextL_rng HP.out b)
        have HNI := Lib.hid (fun (m : Int) (hm : m ∈ nextL p b) (hne : m ≠ joinB p R RA b) => next_in (R := R) HRA.out HP.out HIN.out hm hne)
        have hnl := nextL_le p b
        have hjo := join_out (R := R) HRA.out HP.out HIN.out
        have HIQ := Lib.hid (fun W h hB => pInside_any w1.heap.size W a1 p R HR.out RA HRA.out c1 b (by omega) h hB)
        obtain ⟨hix, hil⟩ := inside_small (p := p) (R := R) (RA := RA) (b := (b : Int))
        have HFW := Lib.hid (show forwardQ p R RA b = true → ∀ x ∈ insideQ p R RA b, decide (x ≤ (b : Int)) = false ∧ decide ((j : Int) ≤ x) = false from fun h x hx => by
          unfold forwardQ at h
          rw [Bool.and_eq_true, List.all_eq_true] at h
          have h1 := h.2 x hx
          rw [HEJ.out] at h1
          simpa using h1)
        rw [HEJ.out] at hjo
        have HJO := Lib.hid hjo
        have HII := Lib.hid (fun x => (show isInsideQ p R RA b x = inL (insideQ p R RA b) x from rfl))
        have HJQ := Lib.hid (show joinOfQ p R RA b = (j : Int) by unfold joinOfQ; rw [if_pos HIN.out, HEJ.out])
        generalize insideQ p R RA b = is at *
        generalize hns : nextL p b = ns at *
        have HIX := Lib.hid hix
        have HNS := Lib.hid hns
        replace h6 := Lib.hid h6
        clear hkj hjk hp eb hin hja e6 hjo hix ej hns
        go_wp2_with fail
        refine h6.out.mono ?_
        rintro e w6 ⟨v6, rfl, o6, b6⟩
        have s6 := b6.size
        obtain ⟨a6, c6, rfl⟩ := o6.form
        have HO6 := Lib.hid (o6.readA (rng_small (by omega) HNR.out))
        have hcb6 : w6.cell? ⟨gb, ob + k, none⟩ = some (.int .i64 (b : Int)) := by rw [b6.cell (p := ⟨gb, ob + k, none⟩) hgbl]; exact hcb
        have hcj6 : w6.cell? ⟨gj, oj + k, none⟩ = some (.int .i64 (j : Int)) := by rw [b6.cell (p := ⟨gj, oj + k, none⟩) hgjl]; exact hcj
        have HB6 := Lib.hid (HB.out.trans (b6.mono sr))
        have hgj6 : gj < w6.heap.size := by omega
        have hgb6 : gb < w6.heap.size := by omega
        clear o6 b6 hcb hcj
        go_wp2_with fail
        refine (HIQ.out _ (HN5.out.kept (HB6.out.mono (by omega))) (by omega)).mono ?_
        rintro e w7 ⟨v7, rfl, o7, b7⟩
        have s7 := b7.size
        obtain ⟨a7, c7, rfl⟩ := o7.form
        have HI7 := Lib.hid (o7.readA (rng_small (by omega) HIX.out))
        have HO7 := Lib.hid ((HO6.out.kept b7).more s7)
        have hcb7 : w7.cell? ⟨gb, ob + k, none⟩ = some (.int .i64 (b : Int)) := by rw [b7.cell (p := ⟨gb, ob + k, none⟩) hgb6]; exact hcb6
        have hcj7 : w7.cell? ⟨gj, oj + k, none⟩ = some (.int .i64 (j : Int)) := by rw [b7.cell (p := ⟨gj, oj + k, none⟩) hgj6]; exact hcj6
        have HB7 := Lib.hid (HB6.out.trans (b7.mono (by omega)))
        have hgj7 : gj < w7.heap.size := by omega
        have hgb7 : gb < w7.heap.size := by omega
        have j0 : decide ((j : Int) < 0) = false := by simp
        have j1 : decide ((p.length : Int) < (j : Int)) = false := by simp; omega
        have j2 : decide (p.length < j) = false := by simp; omega
        have HCJ := Lib.hid (fun W (hW : Kept w7 W) => (show Calls Try.prog 24 #[.slice a1 p.length c1, .int .i64 (b : Int)] W (fun e w' => e = .returned (.int .i64 (j : Int)) ∧ Below W.heap.size W w') from by
          have h9 := pJoinOf_any w1.heap.size W a1 p R HR.out RA HRA.out c1 b (by omega) (HN5.out.kept ((HB7.out.trans (hW.mono (by omega))).mono (by omega))) (by have := hW.size; omega)
          rw [HJQ.out] at h9
          exact h9))
        have HCH := Lib.hid (fun W (hW : Kept w7 W) => (show Calls Try.prog 17 #[.slice a7 is.length c7, .int .i64 (j : Int)] W (fun e w' => e = .returned (.bool false) ∧ Below W.heap.size W w') from by
          refine (has_any w7.heap.size W a7 is c7 j (by omega) (HI7.out.kept hW)).mono ?_
          rw [HJO.out]
          rintro e w' ⟨rfl, rfl⟩
          exact ⟨rfl, Below.refl _ _⟩))
        have hk7 : Kept w7 w7 := Below.refl _ _
        have hz := hk7.size
        clear o7 b7 hcb6 hcj6
        go_wp2_with fail
        go_region_held3 (fun w' => w'.cell? ⟨gb, ob + k, none⟩ = some (.int .i64 (b : Int)) ∧ w'.cell? ⟨gj, oj + k, none⟩ = some (.int .i64 (j : Int))) (first | go_keep | ((repeat' apply And.intro) <;> (rw [hb1.cell (by simp; omega)]; simp [*]))) ((first
          | (go_at_call 24; refine (HCJ.out _ ?_).mono ?_; (first | exact hk7 | exact Kept.drew hk7); rintro e u1 ⟨rfl, hb1⟩; replace hk7 : Kept w7 u1 := (by first | exact Kept.call hk7 hb1 | exact Kept.call (Kept.drew hk7) hb1); have hz := hk7.size)
          | (go_at_call 17; refine (HCH.out _ ?_).mono ?_; (first | exact hk7 | exact Kept.drew hk7); rintro e u1 ⟨rfl, hb1⟩; replace hk7 : Kept w7 u1 := (by first | exact Kept.call hk7 hb1 | exact Kept.call (Kept.drew hk7) hb1); have hz := hk7.size)))
        have HB8 := Lib.hid (HB7.out.trans (hk7.mono (by omega)))
        have HK8 := Lib.hid hk7
        have HCB := Lib.hid hcb7
        have HCJ7 := Lib.hid hcj7
        have s8 := hk7.size
        clear hcb7 hcj7 hk7 hz HCJ HCH
        try clear hb1
        go_wp2_with fail
        go_loopw [9] (fun i wr => ∃ m : Nat, m ≤ ns.length ∧ i = .int .i64 m ∧ Below u1.heap.size u1 wr) (fun i _ => ns.length - (intOf i).toNat)
        case atStart => exact ⟨0, Nat.zero_le _, rfl, Below.refl _ _⟩
        case round =>
          obtain ⟨i, hi, rfl, hb⟩ := hrel
          have sr2 := hb.size
          have HKR := Lib.hid (HK8.out.trans (hb.mono s8))
          have HRR := Lib.hid hb
          have HBR8 := Lib.hid (HB8.out.trans (hb.mono (by omega)))
          clear hb
          by_cases hit : i < ns.length
          · obtain ⟨gn, on, ha6, hgn, hcn⟩ := (HO7.out.kept HKR.out).2 i hit
            have hmm := HNI.out _ (List.getElem_mem hit)
            have hmn : ns[i] ∈ ns := List.getElem_mem hit
            have hmr := HNR.out _ (List.getElem_mem hit)
            generalize ns[i] = m at *
            obtain ⟨m, rfl⟩ := Int.eq_ofNat_of_zero_le hmr.1
            subst ha6
            have hcb := HKR.out.cell (p := ⟨gb, ob + k, none⟩) hgb7
            rw [HCB.out] at hcb
            have hcj := HKR.out.cell (p := ⟨gj, oj + k, none⟩) hgj7
            rw [HCJ7.out] at hcj
            have hkw : Kept wr wr := Below.refl _ _
            have hz := hkw.size
            have hgnl : gn < wr.heap.size := by omega
            have hgbl2 : gb < wr.heap.size := by omega
            have hgjl2 : gj < wr.heap.size := by omega
            have i0 : (0 : Int) ≤ (i : Int) := Int.natCast_nonneg _
            have i1 : (i : Int) < (ns.length : Int) := by omega
            have HCI := Lib.hid (fun (hne : m ≠ j) W (hW : Kept wr W) => (show Calls Try.prog 25 #[.slice a1 p.length c1, .int .i64 (b : Int), .int .i64 (m : Int)] W (fun e w' => e = .returned (.bool true) ∧ Below W.heap.size W w') from by
              have h9 := pIsInside_any w1.heap.size W a1 p R HR.out RA HRA.out c1 b m (by omega) (HN5.out.kept ((HBR8.out.trans (hW.mono (by omega))).mono (by omega))) (by have := hW.size; omega)
              rw [hmm (by rw [HEJ.out]; omega)] at h9
              exact h9))
            have HCR := Lib.hid (fun W (hW : Kept wr W) => (show Calls Try.prog 18 #[.slice a1 p.length c1, .int .i64 (m : Int)] W (fun e w' => e = .returned (.bool (exitQ p R m)) ∧ Below W.heap.size W w') from
              pReachesExit_any w1.heap.size W a1 p R HR.out c1 m (by omega) (HN5.out.kept ((HBR8.out.trans (hW.mono (by omega))).mono (by omega))) (by have := hW.size; omega)))
            have HCA := Lib.hid (fun (hx : exitQ p R m = true) W (hW : Kept wr W) => (show Calls Try.prog 26 #[.slice a1 p.length c1, .int .i64 (m : Int), .int .i64 (j : Int)] W (fun e w' => e = .returned (.bool true) ∧ Below W.heap.size W w') from by
              have h9 := pIsAfter_any w1.heap.size W a1 p R HR.out RA HRA.out c1 m j (by omega) (HN5.out.kept ((HBR8.out.trans (hW.mono (by omega))).mono (by omega))) (by have := hW.size; omega)
              rw [after_iff HRA.out hx hjn (HJA.out m hmn hx)] at h9
              exact h9))
            generalize exitQ p R (m : Int) = x at *
            clear hmm hmn
            clear HNR HNI HIQ HFW HJO HII HJQ HIX HNS h6 HB6 HO6 HBX HBR HBM HJG HBS HJL HJX HN1 HB1 HBy HL HD HJA HEJ HIN
            by_cases hmj : m = j
            · have hne : ((m : Int) != (j : Int)) = false := by rw [hmj]; simp
              clear hmj HCI
              cases x with
              | false =>
                clear HCA
                go_wp2_with fail
                refine wp_region_held_drew (S := (fun w' => w'.cell? ⟨gb, ob + k, none⟩ = some (.int .i64 (b : Int)) ∧ w'.cell? ⟨gj, oj + k, none⟩ = some (.int .i64 (j : Int)) ∧ w'.cell? ⟨gn, on + i, none⟩ = some (.int .i64 (m : Int)))) (by kernel_rfl) ?_ (fun hHeld => ?_)
                · (try dsimp only); (first | go_keep | ((repeat' apply And.intro) <;> (rw [hb1.cell (by simp; omega)]; simp [*])))
                refine' take_yes 0 90 rfl rfl (by kernel_rfl) (by kernel_rfl) (by kernel_rfl) (by rfl) ?hA0 (by assumption) (fun _ _ _ h => h) ?rA0
                case hA0 => (intro w hSw; (try dsimp only at hSw); (try simp only [List.getElem_toArray, List.getElem_cons_zero]); (go_simp <;> with_reducible rfl))
                (try simp only [Act.put, List.setIfInBounds_toArray, List.set_cons_zero, List.set_cons_succ])
                refine' take_yes 1 91 rfl rfl (by kernel_rfl) (by kernel_rfl) (by kernel_rfl) (by rfl) ?hA1 (by assumption) (fun _ _ _ h => h) ?rA1
                case hA1 => (intro w hSw; (try dsimp only at hSw); (try simp only [List.getElem_toArray, List.getElem_cons_succ, List.getElem_cons_zero]); (go_simp <;> with_reducible rfl))
                (try simp only [Act.put, List.setIfInBounds_toArray, List.set_cons_zero, List.set_cons_succ])
                refine' take_yes 2 92 rfl rfl (by kernel_rfl) (by kernel_rfl) (by kernel_rfl) (by rfl) ?hA2 (by assumption) (fun _ _ _ h => h) ?rA2
                case hA2 => (intro w hSw; (try dsimp only at hSw); (try simp only [List.getElem_toArray, List.getElem_cons_succ, List.getElem_cons_zero]); (go_simp <;> with_reducible rfl))
                (try simp only [Act.put, List.setIfInBounds_toArray, List.set_cons_zero, List.set_cons_succ])
                refine' take_yes 3 93 rfl rfl (by kernel_rfl) (by kernel_rfl) (by kernel_rfl) (by rfl) ?hA3 (by assumption) (fun _ _ _ h => h) ?rA3
                case hA3 => (intro w hSw; (try dsimp only at hSw); (try simp only [List.getElem_toArray, List.getElem_cons_succ, List.getElem_cons_zero]); (go_simp <;> with_reducible rfl))
                (try simp only [Act.put, List.setIfInBounds_toArray, List.set_cons_zero, List.set_cons_succ])
                refine' take_yes 4 94 rfl rfl (by kernel_rfl) (by kernel_rfl) (by kernel_rfl) (by rfl) ?hA4 (by assumption) (fun _ _ _ h => h) ?rA4
                case hA4 => (intro w hSw; (try dsimp only at hSw); (try simp only [List.getElem_toArray, List.getElem_cons_succ, List.getElem_cons_zero]); (go_simp <;> with_reducible rfl))
                (try simp only [Act.put, List.setIfInBounds_toArray, List.set_cons_zero, List.set_cons_succ])
                refine' take_yes 5 95 rfl rfl (by kernel_rfl) (by kernel_rfl) (by kernel_rfl) (by rfl) ?hA5 (by assumption) (fun _ _ _ h => h) ?rA5
                case hA5 => (intro w hSw; (try dsimp only at hSw); (try simp only [List.getElem_toArray, List.getElem_cons_succ, List.getElem_cons_zero]); (go_simp <;> with_reducible rfl))
                (try simp only [Act.put, List.setIfInBounds_toArray, List.set_cons_zero, List.set_cons_succ])
                refine' take_yes 6 96 rfl rfl (by kernel_rfl) (by kernel_rfl) (by kernel_rfl) (by rfl) ?hA6 (by assumption) (fun _ _ _ h => h) ?rA6
                case hA6 => (intro w hSw; (try dsimp only at hSw); (try simp only [List.getElem_toArray, List.getElem_cons_succ, List.getElem_cons_zero]); (go_simp <;> with_reducible rfl))
                (try simp only [Act.put, List.setIfInBounds_toArray, List.set_cons_zero, List.set_cons_succ])
                refine' take_yes 7 97 rfl rfl (by kernel_rfl) (by kernel_rfl) (by kernel_rfl) (by rfl) ?hA7 (by assumption) (fun _ _ _ h => h) ?rA7
                case hA7 => (intro w hSw; (try dsimp only at hSw); (try simp only [List.getElem_toArray, List.getElem_cons_succ, List.getElem_cons_zero]); (go_simp <;> with_reducible rfl))
                (try simp only [Act.put, List.setIfInBounds_toArray, List.set_cons_zero, List.set_cons_succ])
                refine' take_yes 8 98 rfl rfl (by kernel_rfl) (by kernel_rfl) (by kernel_rfl) (by rfl) ?hA8 (by assumption) (fun _ _ _ h => h) ?rA8
                case hA8 => (intro w hSw; (try dsimp only at hSw); (try simp only [List.getElem_toArray, List.getElem_cons_succ, List.getElem_cons_zero]); (go_simp <;> with_reducible rfl))
                (try simp only [Act.put, List.setIfInBounds_toArray, List.set_cons_zero, List.set_cons_succ])
                refine' take_yes 9 99 rfl rfl (by kernel_rfl) (by kernel_rfl) (by kernel_rfl) (by rfl) ?hA9 (by assumption) (fun _ _ _ h => h) ?rA9
                case hA9 => (intro w hSw; (try dsimp only at hSw); (try simp only [List.getElem_toArray, List.getElem_cons_succ, List.getElem_cons_zero]); (go_simp <;> with_reducible rfl))
                (try simp only [Act.put, List.setIfInBounds_toArray, List.set_cons_zero, List.set_cons_succ])
                refine take_no 10 100 rfl rfl (by kernel_rfl) (by kernel_rfl) (by kernel_rfl) (by rfl) (by assumption) (fun _ _ _ h => h) ?_
                (try simp only [Act.put, List.setIfInBounds_toArray, List.set_cons_zero, List.set_cons_succ])
                refine take_no 11 101 rfl rfl (by kernel_rfl) (by kernel_rfl) (by kernel_rfl) (by rfl) (by assumption) (fun _ _ _ h => h) ?_
                (try simp only [Act.put, List.setIfInBounds_toArray, List.set_cons_zero, List.set_cons_succ])
                refine take_no 12 102 rfl rfl (by kernel_rfl) (by kernel_rfl) (by kernel_rfl) (by rfl) (by assumption) (fun _ _ _ h => h) ?_
                (try simp only [Act.put, List.setIfInBounds_toArray, List.set_cons_zero, List.set_cons_succ])
                refine take_no 13 103 rfl rfl (by kernel_rfl) (by kernel_rfl) (by kernel_rfl) (by rfl) (by assumption) (fun _ _ _ h => h) ?_
                (try simp only [Act.put, List.setIfInBounds_toArray, List.set_cons_zero, List.set_cons_succ])
                refine take_no 14 104 rfl rfl (by kernel_rfl) (by kernel_rfl) (by kernel_rfl) (by rfl) (by assumption) (fun _ _ _ h => h) ?_
                (try simp only [Act.put, List.setIfInBounds_toArray, List.set_cons_zero, List.set_cons_succ])
                refine take_no 15 105 rfl rfl (by kernel_rfl) (by kernel_rfl) (by kernel_rfl) (by rfl) (by assumption) (fun _ _ _ h => h) ?_
                (try simp only [Act.put, List.setIfInBounds_toArray, List.set_cons_zero, List.set_cons_succ])
                refine take_no 16 106 rfl rfl (by kernel_rfl) (by kernel_rfl) (by kernel_rfl) (by rfl) (by assumption) (fun _ _ _ h => h) ?_
                (try simp only [Act.put, List.setIfInBounds_toArray, List.set_cons_zero, List.set_cons_succ])
                refine take_no 17 107 rfl rfl (by kernel_rfl) (by kernel_rfl) (by kernel_rfl) (by rfl) (by assumption) (fun _ _ _ h => h) ?_
                (try simp only [Act.put, List.setIfInBounds_toArray, List.set_cons_zero, List.set_cons_succ])
                refine take_no 18 108 rfl rfl (by kernel_rfl) (by kernel_rfl) (by kernel_rfl) (by rfl) (by assumption) (fun _ _ _ h => h) ?_
                (try simp only [Act.put, List.setIfInBounds_toArray, List.set_cons_zero, List.set_cons_succ])
                refine take_no 19 109 rfl rfl (by kernel_rfl) (by kernel_rfl) (by kernel_rfl) (by rfl) (by assumption) (fun _ _ _ h => h) ?_
                (try simp only [Act.put, List.setIfInBounds_toArray, List.set_cons_zero, List.set_cons_succ])
                refine take_no 20 110 rfl rfl (by kernel_rfl) (by kernel_rfl) (by kernel_rfl) (by rfl) (by assumption) (fun _ _ _ h => h) ?_
                (try simp only [Act.put, List.setIfInBounds_toArray, List.set_cons_zero, List.set_cons_succ])
                refine' take_yes 21 111 rfl rfl (by kernel_rfl) (by kernel_rfl) (by kernel_rfl) (by rfl) ?hA21 (by assumption) (fun _ _ _ h => h) ?rA21
                case hA21 => (intro w hSw; (try dsimp only at hSw); (try simp only [List.getElem_toArray, List.getElem_cons_succ, List.getElem_cons_zero]); (go_simp <;> with_reducible rfl))
                (try simp only [Act.put, List.setIfInBounds_toArray, List.set_cons_zero, List.set_cons_succ])
                refine' take_yes 22 112 rfl rfl (by kernel_rfl) (by kernel_rfl) (by kernel_rfl) (by rfl) ?hA22 (by assumption) (fun _ _ _ h => h) ?rA22
                case hA22 => (intro w hSw; (try dsimp only at hSw); (try simp only [List.getElem_toArray, List.getElem_cons_succ, List.getElem_cons_zero]); (go_simp <;> with_reducible rfl))
                (try simp only [Act.put, List.setIfInBounds_toArray, List.set_cons_zero, List.set_cons_succ])
                refine' take_yes 23 113 rfl rfl (by kernel_rfl) (by kernel_rfl) (by kernel_rfl) (by rfl) ?hA23 (by assumption) (fun _ _ _ h => h) ?rA23
                case hA23 => (intro w hSw; (try dsimp only at hSw); (try simp only [List.getElem_toArray, List.getElem_cons_succ, List.getElem_cons_zero]); (go_simp <;> with_reducible rfl))
                (try simp only [Act.put, List.setIfInBounds_toArray, List.set_cons_zero, List.set_cons_succ])
                refine' take_yes 24 114 rfl rfl (by kernel_rfl) (by kernel_rfl) (by kernel_rfl) (by rfl) ?hA24 (by assumption) (fun _ _ _ h => h) ?rA24
                case hA24 => (intro w hSw; (try dsimp only at hSw); (try simp only [List.getElem_toArray, List.getElem_cons_succ, List.getElem_cons_zero]); (go_simp <;> with_reducible rfl))
                (try simp only [Act.put, List.setIfInBounds_toArray, List.set_cons_zero, List.set_cons_succ])
                refine' take_yes 25 115 rfl rfl (by kernel_rfl) (by kernel_rfl) (by kernel_rfl) (by rfl) ?hA25 (by assumption) (fun _ _ _ h => h) ?rA25
                case hA25 => (intro w hSw; (try dsimp only at hSw); (try simp only [List.getElem_toArray, List.getElem_cons_succ, List.getElem_cons_zero]); (go_simp <;> with_reducible rfl))
                (try simp only [Act.put, List.setIfInBounds_toArray, List.set_cons_zero, List.set_cons_succ])
                refine' take_yes 26 116 rfl rfl (by kernel_rfl) (by kernel_rfl) (by kernel_rfl) (by rfl) ?hA26 (by assumption) (fun _ _ _ h => h) ?rA26
                case hA26 => (intro w hSw; (try dsimp only at hSw); (try simp only [List.getElem_toArray, List.getElem_cons_succ, List.getElem_cons_zero]); (go_simp <;> with_reducible rfl))
                (try simp only [Act.put, List.setIfInBounds_toArray, List.set_cons_zero, List.set_cons_succ])
                refine' take_yes 27 117 rfl rfl (by kernel_rfl) (by kernel_rfl) (by kernel_rfl) (by rfl) ?hA27 (by assumption) (fun _ _ _ h => h) ?rA27
                case hA27 => (intro w hSw; (try dsimp only at hSw); (try simp only [List.getElem_toArray, List.getElem_cons_succ, List.getElem_cons_zero]); (go_simp <;> with_reducible rfl))
                (try simp only [Act.put, List.setIfInBounds_toArray, List.set_cons_zero, List.set_cons_succ])
                refine take_call 28 (by kernel_rfl) rfl (by rfl) (fun K hK => ?_)
                (try simp only [List.getElem_toArray, List.getElem_cons_succ, List.getElem_cons_zero])
                go_simp
                (go_at_call 18; refine (HCR.out _ ?_).mono ?_; (first | exact hkw | exact Kept.drew hkw); rintro e y1 ⟨rfl, hb1⟩; replace hkw : Kept wr y1 := (by first | exact Kept.call hkw hb1 | exact Kept.call (Kept.drew hkw) hb1); have hz := hkw.size)
                (try go_wp2_with fail)
                refine hK.out _ _ ?_ (fun hHeld => ?_)
                · (try dsimp only); (first | go_keep | ((repeat' apply And.intro) <;> (rw [hb1.cell (by simp; omega)]; simp [*])))
                clear hK K
                (try simp only [Act.put, List.setIfInBounds_toArray, List.set_cons_zero, List.set_cons_succ])
                refine' take_yes 29 119 rfl rfl (by kernel_rfl) (by kernel_rfl) (by kernel_rfl) (by rfl) ?hA29 (by assumption) (fun _ _ _ h => h) ?rA29
                case hA29 => (intro w hSw; (try dsimp only at hSw); (try simp only [List.getElem_toArray, List.getElem_cons_succ, List.getElem_cons_zero]); (go_simp <;> with_reducible rfl))
                (try simp only [Act.put, List.setIfInBounds_toArray, List.set_cons_zero, List.set_cons_succ])
                refine take_no 30 120 rfl rfl (by kernel_rfl) (by kernel_rfl) (by kernel_rfl) (by rfl) (by assumption) (fun _ _ _ h => h) ?_
                (try simp only [Act.put, List.setIfInBounds_toArray, List.set_cons_zero, List.set_cons_succ])
                refine take_no 31 121 rfl rfl (by kernel_rfl) (by kernel_rfl) (by kernel_rfl) (by rfl) (by assumption) (fun _ _ _ h => h) ?_
                (try simp only [Act.put, List.setIfInBounds_toArray, List.set_cons_zero, List.set_cons_succ])
                refine take_no 32 122 rfl rfl (by kernel_rfl) (by kernel_rfl) (by kernel_rfl) (by rfl) (by assumption) (fun _ _ _ h => h) ?_
                (try simp only [Act.put, List.setIfInBounds_toArray, List.set_cons_zero, List.set_cons_succ])
                refine take_no 33 123 rfl rfl (by kernel_rfl) (by kernel_rfl) (by kernel_rfl) (by rfl) (by assumption) (fun _ _ _ h => h) ?_
                (try simp only [Act.put, List.setIfInBounds_toArray, List.set_cons_zero, List.set_cons_succ])
                refine take_no 34 124 rfl rfl (by kernel_rfl) (by kernel_rfl) (by kernel_rfl) (by rfl) (by assumption) (fun _ _ _ h => h) ?_
                (try simp only [Act.put, List.setIfInBounds_toArray, List.set_cons_zero, List.set_cons_succ])
                refine take_no 35 125 rfl rfl (by kernel_rfl) (by kernel_rfl) (by kernel_rfl) (by rfl) (by assumption) (fun _ _ _ h => h) ?_
                (try simp only [Act.put, List.setIfInBounds_toArray, List.set_cons_zero, List.set_cons_succ])
                refine take_no 36 126 rfl rfl (by kernel_rfl) (by kernel_rfl) (by kernel_rfl) (by rfl) (by assumption) (fun _ _ _ h => h) ?_
                (try simp only [Act.put, List.setIfInBounds_toArray, List.set_cons_zero, List.set_cons_succ])
                refine take_no 37 127 rfl rfl (by kernel_rfl) (by kernel_rfl) (by kernel_rfl) (by rfl) (by assumption) (fun _ _ _ h => h) ?_
                (try simp only [Act.put, List.setIfInBounds_toArray, List.set_cons_zero, List.set_cons_succ])
                refine take_no 38 128 rfl rfl (by kernel_rfl) (by kernel_rfl) (by kernel_rfl) (by rfl) (by assumption) (fun _ _ _ h => h) ?_
                (try simp only [Act.put, List.setIfInBounds_toArray, List.set_cons_zero, List.set_cons_succ])
                refine take_no 39 129 rfl rfl (by kernel_rfl) (by kernel_rfl) (by kernel_rfl) (by rfl) (by assumption) (fun _ _ _ h => h) ?_
                (try simp only [Act.put, List.setIfInBounds_toArray, List.set_cons_zero, List.set_cons_succ])
                refine take_no 40 130 rfl rfl (by kernel_rfl) (by kernel_rfl) (by kernel_rfl) (by rfl) (by assumption) (fun _ _ _ h => h) ?_
                (try simp only [Act.put, List.setIfInBounds_toArray, List.set_cons_zero, List.set_cons_succ])
                refine' take_yes 41 131 rfl rfl (by kernel_rfl) (by kernel_rfl) (by kernel_rfl) (by rfl) ?hA41 (by assumption) (fun _ _ _ h => h) ?rA41
                case hA41 => (intro w hSw; (try dsimp only at hSw); (try simp only [List.getElem_toArray, List.getElem_cons_succ, List.getElem_cons_zero]); (go_simp <;> with_reducible rfl))
                (try simp only [Act.put, List.setIfInBounds_toArray, List.set_cons_zero, List.set_cons_succ])
                refine' take_yes 42 132 rfl rfl (by kernel_rfl) (by kernel_rfl) (by kernel_rfl) (by rfl) ?hA42 (by assumption) (fun _ _ _ h => h) ?rA42
                case hA42 => (intro w hSw; (try dsimp only at hSw); (try simp only [List.getElem_toArray, List.getElem_cons_succ, List.getElem_cons_zero]); (go_simp <;> with_reducible rfl))
                (try simp only [Act.put, List.setIfInBounds_toArray, List.set_cons_zero, List.set_cons_succ])
                refine wpAnyH_done (by kernel_rfl) ?_ _
                have HKW := Lib.hid hkw
                clear hkw
                go_wp2_with fail
                go_roundw
                case rel => exact ⟨i + 1, hit, by go_num, HRR.out.trans (HKW.out.mono sr2)⟩
                case measure => simp [intOf]; omega
              | true =>
                have HCA2 := Lib.hid (HCA.out rfl)
                clear HCA
                go_wp2_with fail
                refine wp_region_held_drew (S := (fun w' => w'.cell? ⟨gb, ob + k, none⟩ = some (.int .i64 (b : Int)) ∧ w'.cell? ⟨gj, oj + k, none⟩ = some (.int .i64 (j : Int)) ∧ w'.cell? ⟨gn, on + i, none⟩ = some (.int .i64 (m : Int)))) (by kernel_rfl) ?_ (fun hHeld => ?_)
                · (try dsimp only); (first | go_keep | ((repeat' apply And.intro) <;> (rw [hb1.cell (by simp; omega)]; simp [*])))
                refine' take_yes 0 90 rfl rfl (by kernel_rfl) (by kernel_rfl) (by kernel_rfl) (by rfl) ?hB0 (by assumption) (fun _ _ _ h => h) ?rB0
                case hB0 => (intro w hSw; (try dsimp only at hSw); (try simp only [List.getElem_toArray, List.getElem_cons_zero]); (go_simp <;> with_reducible rfl))
                (try simp only [Act.put, List.setIfInBounds_toArray, List.set_cons_zero, List.set_cons_succ])
                refine' take_yes 1 91 rfl rfl (by kernel_rfl) (by kernel_rfl) (by kernel_rfl) (by rfl) ?hB1 (by assumption) (fun _ _ _ h => h) ?rB1
                case hB1 => (intro w hSw; (try dsimp only at hSw); (try simp only [List.getElem_toArray, List.getElem_cons_succ, List.getElem_cons_zero]); (go_simp <;> with_reducible rfl))
                (try simp only [Act.put, List.setIfInBounds_toArray, List.set_cons_zero, List.set_cons_succ])
                refine' take_yes 2 92 rfl rfl (by kernel_rfl) (by kernel_rfl) (by kernel_rfl) (by rfl) ?hB2 (by assumption) (fun _ _ _ h => h) ?rB2
                case hB2 => (intro w hSw; (try dsimp only at hSw); (try simp only [List.getElem_toArray, List.getElem_cons_succ, List.getElem_cons_zero]); (go_simp <;> with_reducible rfl))
                (try simp only [Act.put, List.setIfInBounds_toArray, List.set_cons_zero, List.set_cons_succ])
                refine' take_yes 3 93 rfl rfl (by kernel_rfl) (by kernel_rfl) (by kernel_rfl) (by rfl) ?hB3 (by assumption) (fun _ _ _ h => h) ?rB3
                case hB3 => (intro w hSw; (try dsimp only at hSw); (try simp only [List.getElem_toArray, List.getElem_cons_succ, List.getElem_cons_zero]); (go_simp <;> with_reducible rfl))
                (try simp only [Act.put, List.setIfInBounds_toArray, List.set_cons_zero, List.set_cons_succ])
                refine' take_yes 4 94 rfl rfl (by kernel_rfl) (by kernel_rfl) (by kernel_rfl) (by rfl) ?hB4 (by assumption) (fun _ _ _ h => h) ?rB4
                case hB4 => (intro w hSw; (try dsimp only at hSw); (try simp only [List.getElem_toArray, List.getElem_cons_succ, List.getElem_cons_zero]); (go_simp <;> with_reducible rfl))
                (try simp only [Act.put, List.setIfInBounds_toArray, List.set_cons_zero, List.set_cons_succ])
                refine' take_yes 5 95 rfl rfl (by kernel_rfl) (by kernel_rfl) (by kernel_rfl) (by rfl) ?hB5 (by assumption) (fun _ _ _ h => h) ?rB5
                case hB5 => (intro w hSw; (try dsimp only at hSw); (try simp only [List.getElem_toArray, List.getElem_cons_succ, List.getElem_cons_zero]); (go_simp <;> with_reducible rfl))
                (try simp only [Act.put, List.setIfInBounds_toArray, List.set_cons_zero, List.set_cons_succ])
                refine' take_yes 6 96 rfl rfl (by kernel_rfl) (by kernel_rfl) (by kernel_rfl) (by rfl) ?hB6 (by assumption) (fun _ _ _ h => h) ?rB6
                case hB6 => (intro w hSw; (try dsimp only at hSw); (try simp only [List.getElem_toArray, List.getElem_cons_succ, List.getElem_cons_zero]); (go_simp <;> with_reducible rfl))
                (try simp only [Act.put, List.setIfInBounds_toArray, List.set_cons_zero, List.set_cons_succ])
                refine' take_yes 7 97 rfl rfl (by kernel_rfl) (by kernel_rfl) (by kernel_rfl) (by rfl) ?hB7 (by assumption) (fun _ _ _ h => h) ?rB7
                case hB7 => (intro w hSw; (try dsimp only at hSw); (try simp only [List.getElem_toArray, List.getElem_cons_succ, List.getElem_cons_zero]); (go_simp <;> with_reducible rfl))
                (try simp only [Act.put, List.setIfInBounds_toArray, List.set_cons_zero, List.set_cons_succ])
                refine' take_yes 8 98 rfl rfl (by kernel_rfl) (by kernel_rfl) (by kernel_rfl) (by rfl) ?hB8 (by assumption) (fun _ _ _ h => h) ?rB8
                case hB8 => (intro w hSw; (try dsimp only at hSw); (try simp only [List.getElem_toArray, List.getElem_cons_succ, List.getElem_cons_zero]); (go_simp <;> with_reducible rfl))
                (try simp only [Act.put, List.setIfInBounds_toArray, List.set_cons_zero, List.set_cons_succ])
                refine' take_yes 9 99 rfl rfl (by kernel_rfl) (by kernel_rfl) (by kernel_rfl) (by rfl) ?hB9 (by assumption) (fun _ _ _ h => h) ?rB9
                case hB9 => (intro w hSw; (try dsimp only at hSw); (try simp only [List.getElem_toArray, List.getElem_cons_succ, List.getElem_cons_zero]); (go_simp <;> with_reducible rfl))
                (try simp only [Act.put, List.setIfInBounds_toArray, List.set_cons_zero, List.set_cons_succ])
                refine take_no 10 100 rfl rfl (by kernel_rfl) (by kernel_rfl) (by kernel_rfl) (by rfl) (by assumption) (fun _ _ _ h => h) ?_
                (try simp only [Act.put, List.setIfInBounds_toArray, List.set_cons_zero, List.set_cons_succ])
                refine take_no 11 101 rfl rfl (by kernel_rfl) (by kernel_rfl) (by kernel_rfl) (by rfl) (by assumption) (fun _ _ _ h => h) ?_
                (try simp only [Act.put, List.setIfInBounds_toArray, List.set_cons_zero, List.set_cons_succ])
                refine take_no 12 102 rfl rfl (by kernel_rfl) (by kernel_rfl) (by kernel_rfl) (by rfl) (by assumption) (fun _ _ _ h => h) ?_
                (try simp only [Act.put, List.setIfInBounds_toArray, List.set_cons_zero, List.set_cons_succ])
                refine take_no 13 103 rfl rfl (by kernel_rfl) (by kernel_rfl) (by kernel_rfl) (by rfl) (by assumption) (fun _ _ _ h => h) ?_
                (try simp only [Act.put, List.setIfInBounds_toArray, List.set_cons_zero, List.set_cons_succ])
                refine take_no 14 104 rfl rfl (by kernel_rfl) (by kernel_rfl) (by kernel_rfl) (by rfl) (by assumption) (fun _ _ _ h => h) ?_
                (try simp only [Act.put, List.setIfInBounds_toArray, List.set_cons_zero, List.set_cons_succ])
                refine take_no 15 105 rfl rfl (by kernel_rfl) (by kernel_rfl) (by kernel_rfl) (by rfl) (by assumption) (fun _ _ _ h => h) ?_
                (try simp only [Act.put, List.setIfInBounds_toArray, List.set_cons_zero, List.set_cons_succ])
                refine take_no 16 106 rfl rfl (by kernel_rfl) (by kernel_rfl) (by kernel_rfl) (by rfl) (by assumption) (fun _ _ _ h => h) ?_
                (try simp only [Act.put, List.setIfInBounds_toArray, List.set_cons_zero, List.set_cons_succ])
                refine take_no 17 107 rfl rfl (by kernel_rfl) (by kernel_rfl) (by kernel_rfl) (by rfl) (by assumption) (fun _ _ _ h => h) ?_
                (try simp only [Act.put, List.setIfInBounds_toArray, List.set_cons_zero, List.set_cons_succ])
                refine take_no 18 108 rfl rfl (by kernel_rfl) (by kernel_rfl) (by kernel_rfl) (by rfl) (by assumption) (fun _ _ _ h => h) ?_
                (try simp only [Act.put, List.setIfInBounds_toArray, List.set_cons_zero, List.set_cons_succ])
                refine take_no 19 109 rfl rfl (by kernel_rfl) (by kernel_rfl) (by kernel_rfl) (by rfl) (by assumption) (fun _ _ _ h => h) ?_
                (try simp only [Act.put, List.setIfInBounds_toArray, List.set_cons_zero, List.set_cons_succ])
                refine take_no 20 110 rfl rfl (by kernel_rfl) (by kernel_rfl) (by kernel_rfl) (by rfl) (by assumption) (fun _ _ _ h => h) ?_
                (try simp only [Act.put, List.setIfInBounds_toArray, List.set_cons_zero, List.set_cons_succ])
                refine' take_yes 21 111 rfl rfl (by kernel_rfl) (by kernel_rfl) (by kernel_rfl) (by rfl) ?hB21 (by assumption) (fun _ _ _ h => h) ?rB21
                case hB21 => (intro w hSw; (try dsimp only at hSw); (try simp only [List.getElem_toArray, List.getElem_cons_succ, List.getElem_cons_zero]); (go_simp <;> with_reducible rfl))
                (try simp only [Act.put, List.setIfInBounds_toArray, List.set_cons_zero, List.set_cons_succ])
                refine' take_yes 22 112 rfl rfl (by kernel_rfl) (by kernel_rfl) (by kernel_rfl) (by rfl) ?hB22 (by assumption) (fun _ _ _ h => h) ?rB22
                case hB22 => (intro w hSw; (try dsimp only at hSw); (try simp only [List.getElem_toArray, List.getElem_cons_succ, List.getElem_cons_zero]); (go_simp <;> with_reducible rfl))
                (try simp only [Act.put, List.setIfInBounds_toArray, List.set_cons_zero, List.set_cons_succ])
                refine' take_yes 23 113 rfl rfl (by kernel_rfl) (by kernel_rfl) (by kernel_rfl) (by rfl) ?hB23 (by assumption) (fun _ _ _ h => h) ?rB23
                case hB23 => (intro w hSw; (try dsimp only at hSw); (try simp only [List.getElem_toArray, List.getElem_cons_succ, List.getElem_cons_zero]); (go_simp <;> with_reducible rfl))
                (try simp only [Act.put, List.setIfInBounds_toArray, List.set_cons_zero, List.set_cons_succ])
                refine' take_yes 24 114 rfl rfl (by kernel_rfl) (by kernel_rfl) (by kernel_rfl) (by rfl) ?hB24 (by assumption) (fun _ _ _ h => h) ?rB24
                case hB24 => (intro w hSw; (try dsimp only at hSw); (try simp only [List.getElem_toArray, List.getElem_cons_succ, List.getElem_cons_zero]); (go_simp <;> with_reducible rfl))
                (try simp only [Act.put, List.setIfInBounds_toArray, List.set_cons_zero, List.set_cons_succ])
                refine' take_yes 25 115 rfl rfl (by kernel_rfl) (by kernel_rfl) (by kernel_rfl) (by rfl) ?hB25 (by assumption) (fun _ _ _ h => h) ?rB25
                case hB25 => (intro w hSw; (try dsimp only at hSw); (try simp only [List.getElem_toArray, List.getElem_cons_succ, List.getElem_cons_zero]); (go_simp <;> with_reducible rfl))
                (try simp only [Act.put, List.setIfInBounds_toArray, List.set_cons_zero, List.set_cons_succ])
                refine' take_yes 26 116 rfl rfl (by kernel_rfl) (by kernel_rfl) (by kernel_rfl) (by rfl) ?hB26 (by assumption) (fun _ _ _ h => h) ?rB26
                case hB26 => (intro w hSw; (try dsimp only at hSw); (try simp only [List.getElem_toArray, List.getElem_cons_succ, List.getElem_cons_zero]); (go_simp <;> with_reducible rfl))
                (try simp only [Act.put, List.setIfInBounds_toArray, List.set_cons_zero, List.set_cons_succ])
                refine' take_yes 27 117 rfl rfl (by kernel_rfl) (by kernel_rfl) (by kernel_rfl) (by rfl) ?hB27 (by assumption) (fun _ _ _ h => h) ?rB27
                case hB27 => (intro w hSw; (try dsimp only at hSw); (try simp only [List.getElem_toArray, List.getElem_cons_succ, List.getElem_cons_zero]); (go_simp <;> with_reducible rfl))
                (try simp only [Act.put, List.setIfInBounds_toArray, List.set_cons_zero, List.set_cons_succ])
                refine take_call 28 (by kernel_rfl) rfl (by rfl) (fun K hK => ?_)
                (try simp only [List.getElem_toArray, List.getElem_cons_succ, List.getElem_cons_zero])
                go_simp
                (go_at_call 18; refine (HCR.out _ ?_).mono ?_; (first | exact hkw | exact Kept.drew hkw); rintro e y1 ⟨rfl, hb1⟩; replace hkw : Kept wr y1 := (by first | exact Kept.call hkw hb1 | exact Kept.call (Kept.drew hkw) hb1); have hz := hkw.size)
                (try go_wp2_with fail)
                refine hK.out _ _ ?_ (fun hHeld => ?_)
                · (try dsimp only); (first | go_keep | ((repeat' apply And.intro) <;> (rw [hb1.cell (by simp; omega)]; simp [*])))
                clear hK K
                (try simp only [Act.put, List.setIfInBounds_toArray, List.set_cons_zero, List.set_cons_succ])
                refine' take_yes 29 119 rfl rfl (by kernel_rfl) (by kernel_rfl) (by kernel_rfl) (by rfl) ?hB29 (by assumption) (fun _ _ _ h => h) ?rB29
                case hB29 => (intro w hSw; (try dsimp only at hSw); (try simp only [List.getElem_toArray, List.getElem_cons_succ, List.getElem_cons_zero]); (go_simp <;> with_reducible rfl))
                (try simp only [Act.put, List.setIfInBounds_toArray, List.set_cons_zero, List.set_cons_succ])
                refine' take_yes 30 120 rfl rfl (by kernel_rfl) (by kernel_rfl) (by kernel_rfl) (by rfl) ?hB30 (by assumption) (fun _ _ _ h => h) ?rB30
                case hB30 => (intro w hSw; (try dsimp only at hSw); (try simp only [List.getElem_toArray, List.getElem_cons_succ, List.getElem_cons_zero]); (go_simp <;> with_reducible rfl))
                (try simp only [Act.put, List.setIfInBounds_toArray, List.set_cons_zero, List.set_cons_succ])
                refine' take_yes 31 121 rfl rfl (by kernel_rfl) (by kernel_rfl) (by kernel_rfl) (by rfl) ?hB31 (by assumption) (fun _ _ _ h => h) ?rB31
                case hB31 => (intro w hSw; (try dsimp only at hSw); (try simp only [List.getElem_toArray, List.getElem_cons_succ, List.getElem_cons_zero]); (go_simp <;> with_reducible rfl))
                (try simp only [Act.put, List.setIfInBounds_toArray, List.set_cons_zero, List.set_cons_succ])
                refine' take_yes 32 122 rfl rfl (by kernel_rfl) (by kernel_rfl) (by kernel_rfl) (by rfl) ?hB32 (by assumption) (fun _ _ _ h => h) ?rB32
                case hB32 => (intro w hSw; (try dsimp only at hSw); (try simp only [List.getElem_toArray, List.getElem_cons_succ, List.getElem_cons_zero]); (go_simp <;> with_reducible rfl))
                (try simp only [Act.put, List.setIfInBounds_toArray, List.set_cons_zero, List.set_cons_succ])
                refine' take_yes 33 123 rfl rfl (by kernel_rfl) (by kernel_rfl) (by kernel_rfl) (by rfl) ?hB33 (by assumption) (fun _ _ _ h => h) ?rB33
                case hB33 => (intro w hSw; (try dsimp only at hSw); (try simp only [List.getElem_toArray, List.getElem_cons_succ, List.getElem_cons_zero]); (go_simp <;> with_reducible rfl))
                (try simp only [Act.put, List.setIfInBounds_toArray, List.set_cons_zero, List.set_cons_succ])
                refine' take_yes 34 124 rfl rfl (by kernel_rfl) (by kernel_rfl) (by kernel_rfl) (by rfl) ?hB34 (by assumption) (fun _ _ _ h => h) ?rB34
                case hB34 => (intro w hSw; (try dsimp only at hSw); (try simp only [List.getElem_toArray, List.getElem_cons_succ, List.getElem_cons_zero]); (go_simp <;> with_reducible rfl))
                (try simp only [Act.put, List.setIfInBounds_toArray, List.set_cons_zero, List.set_cons_succ])
                refine' take_yes 35 125 rfl rfl (by kernel_rfl) (by kernel_rfl) (by kernel_rfl) (by rfl) ?hB35 (by assumption) (fun _ _ _ h => h) ?rB35
                case hB35 => (intro w hSw; (try dsimp only at hSw); (try simp only [List.getElem_toArray, List.getElem_cons_succ, List.getElem_cons_zero]); (go_simp <;> with_reducible rfl))
                (try simp only [Act.put, List.setIfInBounds_toArray, List.set_cons_zero, List.set_cons_succ])
                refine' take_yes 36 126 rfl rfl (by kernel_rfl) (by kernel_rfl) (by kernel_rfl) (by rfl) ?hB36 (by assumption) (fun _ _ _ h => h) ?rB36
                case hB36 => (intro w hSw; (try dsimp only at hSw); (try simp only [List.getElem_toArray, List.getElem_cons_succ, List.getElem_cons_zero]); (go_simp <;> with_reducible rfl))
                (try simp only [Act.put, List.setIfInBounds_toArray, List.set_cons_zero, List.set_cons_succ])
                refine' take_yes 37 127 rfl rfl (by kernel_rfl) (by kernel_rfl) (by kernel_rfl) (by rfl) ?hB37 (by assumption) (fun _ _ _ h => h) ?rB37
                case hB37 => (intro w hSw; (try dsimp only at hSw); (try simp only [List.getElem_toArray, List.getElem_cons_succ, List.getElem_cons_zero]); (go_simp <;> with_reducible rfl))
                (try simp only [Act.put, List.setIfInBounds_toArray, List.set_cons_zero, List.set_cons_succ])
                refine' take_yes 38 128 rfl rfl (by kernel_rfl) (by kernel_rfl) (by kernel_rfl) (by rfl) ?hB38 (by assumption) (fun _ _ _ h => h) ?rB38
                case hB38 => (intro w hSw; (try dsimp only at hSw); (try simp only [List.getElem_toArray, List.getElem_cons_succ, List.getElem_cons_zero]); (go_simp <;> with_reducible rfl))
                (try simp only [Act.put, List.setIfInBounds_toArray, List.set_cons_zero, List.set_cons_succ])
                refine take_call 39 (by kernel_rfl) rfl (by rfl) (fun K hK => ?_)
                (try simp only [List.getElem_toArray, List.getElem_cons_succ, List.getElem_cons_zero])
                go_simp
                (go_at_call 26; refine (HCA2.out _ ?_).mono ?_; (first | exact hkw | exact Kept.drew hkw); rintro e y1 ⟨rfl, hb1⟩; replace hkw : Kept wr y1 := (by first | exact Kept.call hkw hb1 | exact Kept.call (Kept.drew hkw) hb1); have hz := hkw.size)
                (try go_wp2_with fail)
                refine hK.out _ _ ?_ (fun hHeld => ?_)
                · (try dsimp only); (first | go_keep | ((repeat' apply And.intro) <;> (rw [hb1.cell (by simp; omega)]; simp [*])))
                clear hK K
                (try simp only [Act.put, List.setIfInBounds_toArray, List.set_cons_zero, List.set_cons_succ])
                refine' take_yes 40 130 rfl rfl (by kernel_rfl) (by kernel_rfl) (by kernel_rfl) (by rfl) ?hB40 (by assumption) (fun _ _ _ h => h) ?rB40
                case hB40 => (intro w hSw; (try dsimp only at hSw); (try simp only [List.getElem_toArray, List.getElem_cons_succ, List.getElem_cons_zero]); (go_simp <;> with_reducible rfl))
                (try simp only [Act.put, List.setIfInBounds_toArray, List.set_cons_zero, List.set_cons_succ])
                refine' take_yes 41 131 rfl rfl (by kernel_rfl) (by kernel_rfl) (by kernel_rfl) (by rfl) ?hB41 (by assumption) (fun _ _ _ h => h) ?rB41
                case hB41 => (intro w hSw; (try dsimp only at hSw); (try simp only [List.getElem_toArray, List.getElem_cons_succ, List.getElem_cons_zero]); (go_simp <;> with_reducible rfl))
                (try simp only [Act.put, List.setIfInBounds_toArray, List.set_cons_zero, List.set_cons_succ])
                refine' take_yes 42 132 rfl rfl (by kernel_rfl) (by kernel_rfl) (by kernel_rfl) (by rfl) ?hB42 (by assumption) (fun _ _ _ h => h) ?rB42
                case hB42 => (intro w hSw; (try dsimp only at hSw); (try simp only [List.getElem_toArray, List.getElem_cons_succ, List.getElem_cons_zero]); (go_simp <;> with_reducible rfl))
                (try simp only [Act.put, List.setIfInBounds_toArray, List.set_cons_zero, List.set_cons_succ])
                refine wpAnyH_done (by kernel_rfl) ?_ _
                have HKW := Lib.hid hkw
                clear hkw
                go_wp2_with fail
                go_roundw
                case rel => exact ⟨i + 1, hit, by go_num, HRR.out.trans (HKW.out.mono sr2)⟩
                case measure => simp [intOf]; omega
            · have hne : ((m : Int) != (j : Int)) = true := by rw [bne_iff_ne]; omega
              have HCI2 := Lib.hid (HCI.out hmj)
              clear hmj HCI
              cases x with
              | false =>
                clear HCA
                go_wp2_with fail
                refine wp_region_held_drew (S := (fun w' => w'.cell? ⟨gb, ob + k, none⟩ = some (.int .i64 (b : Int)) ∧ w'.cell? ⟨gj, oj + k, none⟩ = some (.int .i64 (j : Int)) ∧ w'.cell? ⟨gn, on + i, none⟩ = some (.int .i64 (m : Int)))) (by kernel_rfl) ?_ (fun hHeld => ?_)
                · (try dsimp only); (first | go_keep | ((repeat' apply And.intro) <;> (rw [hb1.cell (by simp; omega)]; simp [*])))
                refine' take_yes 0 90 rfl rfl (by kernel_rfl) (by kernel_rfl) (by kernel_rfl) (by rfl) ?hC0 (by assumption) (fun _ _ _ h => h) ?rC0
                case hC0 => (intro w hSw; (try dsimp only at hSw); (try simp only [List.getElem_toArray, List.getElem_cons_zero]); (go_simp <;> with_reducible rfl))
                (try simp only [Act.put, List.setIfInBounds_toArray, List.set_cons_zero, List.set_cons_succ])
                refine' take_yes 1 91 rfl rfl (by kernel_rfl) (by kernel_rfl) (by kernel_rfl) (by rfl) ?hC1 (by assumption) (fun _ _ _ h => h) ?rC1
                case hC1 => (intro w hSw; (try dsimp only at hSw); (try simp only [List.getElem_toArray, List.getElem_cons_succ, List.getElem_cons_zero]); (go_simp <;> with_reducible rfl))
                (try simp only [Act.put, List.setIfInBounds_toArray, List.set_cons_zero, List.set_cons_succ])
                refine' take_yes 2 92 rfl rfl (by kernel_rfl) (by kernel_rfl) (by kernel_rfl) (by rfl) ?hC2 (by assumption) (fun _ _ _ h => h) ?rC2
                case hC2 => (intro w hSw; (try dsimp only at hSw); (try simp only [List.getElem_toArray, List.getElem_cons_succ, List.getElem_cons_zero]); (go_simp <;> with_reducible rfl))
                (try simp only [Act.put, List.setIfInBounds_toArray, List.set_cons_zero, List.set_cons_succ])
                refine' take_yes 3 93 rfl rfl (by kernel_rfl) (by kernel_rfl) (by kernel_rfl) (by rfl) ?hC3 (by assumption) (fun _ _ _ h => h) ?rC3
                case hC3 => (intro w hSw; (try dsimp only at hSw); (try simp only [List.getElem_toArray, List.getElem_cons_succ, List.getElem_cons_zero]); (go_simp <;> with_reducible rfl))
                (try simp only [Act.put, List.setIfInBounds_toArray, List.set_cons_zero, List.set_cons_succ])
                refine' take_yes 4 94 rfl rfl (by kernel_rfl) (by kernel_rfl) (by kernel_rfl) (by rfl) ?hC4 (by assumption) (fun _ _ _ h => h) ?rC4
                case hC4 => (intro w hSw; (try dsimp only at hSw); (try simp only [List.getElem_toArray, List.getElem_cons_succ, List.getElem_cons_zero]); (go_simp <;> with_reducible rfl))
                (try simp only [Act.put, List.setIfInBounds_toArray, List.set_cons_zero, List.set_cons_succ])
                refine' take_yes 5 95 rfl rfl (by kernel_rfl) (by kernel_rfl) (by kernel_rfl) (by rfl) ?hC5 (by assumption) (fun _ _ _ h => h) ?rC5
                case hC5 => (intro w hSw; (try dsimp only at hSw); (try simp only [List.getElem_toArray, List.getElem_cons_succ, List.getElem_cons_zero]); (go_simp <;> with_reducible rfl))
                (try simp only [Act.put, List.setIfInBounds_toArray, List.set_cons_zero, List.set_cons_succ])
                refine' take_yes 6 96 rfl rfl (by kernel_rfl) (by kernel_rfl) (by kernel_rfl) (by rfl) ?hC6 (by assumption) (fun _ _ _ h => h) ?rC6
                case hC6 => (intro w hSw; (try dsimp only at hSw); (try simp only [List.getElem_toArray, List.getElem_cons_succ, List.getElem_cons_zero]); (go_simp <;> with_reducible rfl))
                (try simp only [Act.put, List.setIfInBounds_toArray, List.set_cons_zero, List.set_cons_succ])
                refine' take_yes 7 97 rfl rfl (by kernel_rfl) (by kernel_rfl) (by kernel_rfl) (by rfl) ?hC7 (by assumption) (fun _ _ _ h => h) ?rC7
                case hC7 => (intro w hSw; (try dsimp only at hSw); (try simp only [List.getElem_toArray, List.getElem_cons_succ, List.getElem_cons_zero]); (go_simp <;> with_reducible rfl))
                (try simp only [Act.put, List.setIfInBounds_toArray, List.set_cons_zero, List.set_cons_succ])
                refine' take_yes 8 98 rfl rfl (by kernel_rfl) (by kernel_rfl) (by kernel_rfl) (by rfl) ?hC8 (by assumption) (fun _ _ _ h => h) ?rC8
                case hC8 => (intro w hSw; (try dsimp only at hSw); (try simp only [List.getElem_toArray, List.getElem_cons_succ, List.getElem_cons_zero]); (go_simp <;> with_reducible rfl))
                (try simp only [Act.put, List.setIfInBounds_toArray, List.set_cons_zero, List.set_cons_succ])
                refine' take_yes 9 99 rfl rfl (by kernel_rfl) (by kernel_rfl) (by kernel_rfl) (by rfl) ?hC9 (by assumption) (fun _ _ _ h => h) ?rC9
                case hC9 => (intro w hSw; (try dsimp only at hSw); (try simp only [List.getElem_toArray, List.getElem_cons_succ, List.getElem_cons_zero]); (go_simp <;> with_reducible rfl))
                (try simp only [Act.put, List.setIfInBounds_toArray, List.set_cons_zero, List.set_cons_succ])
                refine' take_yes 10 100 rfl rfl (by kernel_rfl) (by kernel_rfl) (by kernel_rfl) (by rfl) ?hC10 (by assumption) (fun _ _ _ h => h) ?rC10
                case hC10 => (intro w hSw; (try dsimp only at hSw); (try simp only [List.getElem_toArray, List.getElem_cons_succ, List.getElem_cons_zero]); (go_simp <;> with_reducible rfl))
                (try simp only [Act.put, List.setIfInBounds_toArray, List.set_cons_zero, List.set_cons_succ])
                refine' take_yes 11 101 rfl rfl (by kernel_rfl) (by kernel_rfl) (by kernel_rfl) (by rfl) ?hC11 (by assumption) (fun _ _ _ h => h) ?rC11
                case hC11 => (intro w hSw; (try dsimp only at hSw); (try simp only [List.getElem_toArray, List.getElem_cons_succ, List.getElem_cons_zero]); (go_simp <;> with_reducible rfl))
                (try simp only [Act.put, List.setIfInBounds_toArray, List.set_cons_zero, List.set_cons_succ])
                refine' take_yes 12 102 rfl rfl (by kernel_rfl) (by kernel_rfl) (by kernel_rfl) (by rfl) ?hC12 (by assumption) (fun _ _ _ h => h) ?rC12
                case hC12 => (intro w hSw; (try dsimp only at hSw); (try simp only [List.getElem_toArray, List.getElem_cons_succ, List.getElem_cons_zero]); (go_simp <;> with_reducible rfl))
                (try simp only [Act.put, List.setIfInBounds_toArray, List.set_cons_zero, List.set_cons_succ])
                refine' take_yes 13 103 rfl rfl (by kernel_rfl) (by kernel_rfl) (by kernel_rfl) (by rfl) ?hC13 (by assumption) (fun _ _ _ h => h) ?rC13
                case hC13 => (intro w hSw; (try dsimp only at hSw); (try simp only [List.getElem_toArray, List.getElem_cons_succ, List.getElem_cons_zero]); (go_simp <;> with_reducible rfl))
                (try simp only [Act.put, List.setIfInBounds_toArray, List.set_cons_zero, List.set_cons_succ])
                refine' take_yes 14 104 rfl rfl (by kernel_rfl) (by kernel_rfl) (by kernel_rfl) (by rfl) ?hC14 (by assumption) (fun _ _ _ h => h) ?rC14
                case hC14 => (intro w hSw; (try dsimp only at hSw); (try simp only [List.getElem_toArray, List.getElem_cons_succ, List.getElem_cons_zero]); (go_simp <;> with_reducible rfl))
                (try simp only [Act.put, List.setIfInBounds_toArray, List.set_cons_zero, List.set_cons_succ])
                refine' take_yes 15 105 rfl rfl (by kernel_rfl) (by kernel_rfl) (by kernel_rfl) (by rfl) ?hC15 (by assumption) (fun _ _ _ h => h) ?rC15
                case hC15 => (intro w hSw; (try dsimp only at hSw); (try simp only [List.getElem_toArray, List.getElem_cons_succ, List.getElem_cons_zero]); (go_simp <;> with_reducible rfl))
                (try simp only [Act.put, List.setIfInBounds_toArray, List.set_cons_zero, List.set_cons_succ])
                refine' take_yes 16 106 rfl rfl (by kernel_rfl) (by kernel_rfl) (by kernel_rfl) (by rfl) ?hC16 (by assumption) (fun _ _ _ h => h) ?rC16
                case hC16 => (intro w hSw; (try dsimp only at hSw); (try simp only [List.getElem_toArray, List.getElem_cons_succ, List.getElem_cons_zero]); (go_simp <;> with_reducible rfl))
                (try simp only [Act.put, List.setIfInBounds_toArray, List.set_cons_zero, List.set_cons_succ])
                refine' take_yes 17 107 rfl rfl (by kernel_rfl) (by kernel_rfl) (by kernel_rfl) (by rfl) ?hC17 (by assumption) (fun _ _ _ h => h) ?rC17
                case hC17 => (intro w hSw; (try dsimp only at hSw); (try simp only [List.getElem_toArray, List.getElem_cons_succ, List.getElem_cons_zero]); (go_simp <;> with_reducible rfl))
                (try simp only [Act.put, List.setIfInBounds_toArray, List.set_cons_zero, List.set_cons_succ])
                refine' take_yes 18 108 rfl rfl (by kernel_rfl) (by kernel_rfl) (by kernel_rfl) (by rfl) ?hC18 (by assumption) (fun _ _ _ h => h) ?rC18
                case hC18 => (intro w hSw; (try dsimp only at hSw); (try simp only [List.getElem_toArray, List.getElem_cons_succ, List.getElem_cons_zero]); (go_simp <;> with_reducible rfl))
                (try simp only [Act.put, List.setIfInBounds_toArray, List.set_cons_zero, List.set_cons_succ])
                refine take_call 19 (by kernel_rfl) rfl (by rfl) (fun K hK => ?_)
                (try simp only [List.getElem_toArray, List.getElem_cons_succ, List.getElem_cons_zero])
                go_simp
                (go_at_call 25; refine (HCI2.out _ ?_).mono ?_; (first | exact hkw | exact Kept.drew hkw); rintro e y1 ⟨rfl, hb1⟩; replace hkw : Kept wr y1 := (by first | exact Kept.call hkw hb1 | exact Kept.call (Kept.drew hkw) hb1); have hz := hkw.size)
                (try go_wp2_with fail)
                refine hK.out _ _ ?_ (fun hHeld => ?_)
                · (try dsimp only); (first | go_keep | ((repeat' apply And.intro) <;> (rw [hb1.cell (by simp; omega)]; simp [*])))
                clear hK K
                (try simp only [Act.put, List.setIfInBounds_toArray, List.set_cons_zero, List.set_cons_succ])
                refine' take_yes 20 110 rfl rfl (by kernel_rfl) (by kernel_rfl) (by kernel_rfl) (by rfl) ?hC20 (by assumption) (fun _ _ _ h => h) ?rC20
                case hC20 => (intro w hSw; (try dsimp only at hSw); (try simp only [List.getElem_toArray, List.getElem_cons_succ, List.getElem_cons_zero]); (go_simp <;> with_reducible rfl))
                (try simp only [Act.put, List.setIfInBounds_toArray, List.set_cons_zero, List.set_cons_succ])
                refine' take_yes 21 111 rfl rfl (by kernel_rfl) (by kernel_rfl) (by kernel_rfl) (by rfl) ?hC21 (by assumption) (fun _ _ _ h => h) ?rC21
                case hC21 => (intro w hSw; (try dsimp only at hSw); (try simp only [List.getElem_toArray, List.getElem_cons_succ, List.getElem_cons_zero]); (go_simp <;> with_reducible rfl))
                (try simp only [Act.put, List.setIfInBounds_toArray, List.set_cons_zero, List.set_cons_succ])
                refine' take_yes 22 112 rfl rfl (by kernel_rfl) (by kernel_rfl) (by kernel_rfl) (by rfl) ?hC22 (by assumption) (fun _ _ _ h => h) ?rC22
                case hC22 => (intro w hSw; (try dsimp only at hSw); (try simp only [List.getElem_toArray, List.getElem_cons_succ, List.getElem_cons_zero]); (go_simp <;> with_reducible rfl))
                (try simp only [Act.put, List.setIfInBounds_toArray, List.set_cons_zero, List.set_cons_succ])
                refine' take_yes 23 113 rfl rfl (by kernel_rfl) (by kernel_rfl) (by kernel_rfl) (by rfl) ?hC23 (by assumption) (fun _ _ _ h => h) ?rC23
                case hC23 => (intro w hSw; (try dsimp only at hSw); (try simp only [List.getElem_toArray, List.getElem_cons_succ, List.getElem_cons_zero]); (go_simp <;> with_reducible rfl))
                (try simp only [Act.put, List.setIfInBounds_toArray, List.set_cons_zero, List.set_cons_succ])
                refine' take_yes 24 114 rfl rfl (by kernel_rfl) (by kernel_rfl) (by kernel_rfl) (by rfl) ?hC24 (by assumption) (fun _ _ _ h => h) ?rC24
                case hC24 => (intro w hSw; (try dsimp only at hSw); (try simp only [List.getElem_toArray, List.getElem_cons_succ, List.getElem_cons_zero]); (go_simp <;> with_reducible rfl))
                (try simp only [Act.put, List.setIfInBounds_toArray, List.set_cons_zero, List.set_cons_succ])
                refine' take_yes 25 115 rfl rfl (by kernel_rfl) (by kernel_rfl) (by kernel_rfl) (by rfl) ?hC25 (by assumption) (fun _ _ _ h => h) ?rC25
                case hC25 => (intro w hSw; (try dsimp only at hSw); (try simp only [List.getElem_toArray, List.getElem_cons_succ, List.getElem_cons_zero]); (go_simp <;> with_reducible rfl))
                (try simp only [Act.put, List.setIfInBounds_toArray, List.set_cons_zero, List.set_cons_succ])
                refine' take_yes 26 116 rfl rfl (by kernel_rfl) (by kernel_rfl) (by kernel_rfl) (by rfl) ?hC26 (by assumption) (fun _ _ _ h => h) ?rC26
                case hC26 => (intro w hSw; (try dsimp only at hSw); (try simp only [List.getElem_toArray, List.getElem_cons_succ, List.getElem_cons_zero]); (go_simp <;> with_reducible rfl))
                (try simp only [Act.put, List.setIfInBounds_toArray, List.set_cons_zero, List.set_cons_succ])
                refine' take_yes 27 117 rfl rfl (by kernel_rfl) (by kernel_rfl) (by kernel_rfl) (by rfl) ?hC27 (by assumption) (fun _ _ _ h => h) ?rC27
                case hC27 => (intro w hSw; (try dsimp only at hSw); (try simp only [List.getElem_toArray, List.getElem_cons_succ, List.getElem_cons_zero]); (go_simp <;> with_reducible rfl))
                (try simp only [Act.put, List.setIfInBounds_toArray, List.set_cons_zero, List.set_cons_succ])
                refine take_call 28 (by kernel_rfl) rfl (by rfl) (fun K hK => ?_)
                (try simp only [List.getElem_toArray, List.getElem_cons_succ, List.getElem_cons_zero])
                go_simp
                (go_at_call 18; refine (HCR.out _ ?_).mono ?_; (first | exact hkw | exact Kept.drew hkw); rintro e y1 ⟨rfl, hb1⟩; replace hkw : Kept wr y1 := (by first | exact Kept.call hkw hb1 | exact Kept.call (Kept.drew hkw) hb1); have hz := hkw.size)
                (try go_wp2_with fail)
                refine hK.out _ _ ?_ (fun hHeld => ?_)
                · (try dsimp only); (first | go_keep | ((repeat' apply And.intro) <;> (rw [hb1.cell (by simp; omega)]; simp [*])))
                clear hK K
                (try simp only [Act.put, List.setIfInBounds_toArray, List.set_cons_zero, List.set_cons_succ])
                refine' take_yes 29 119 rfl rfl (by kernel_rfl) (by kernel_rfl) (by kernel_rfl) (by rfl) ?hC29 (by assumption) (fun _ _ _ h => h) ?rC29
                case hC29 => (intro w hSw; (try dsimp only at hSw); (try simp only [List.getElem_toArray, List.getElem_cons_succ, List.getElem_cons_zero]); (go_simp <;> with_reducible rfl))
                (try simp only [Act.put, List.setIfInBounds_toArray, List.set_cons_zero, List.set_cons_succ])
                refine take_no 30 120 rfl rfl (by kernel_rfl) (by kernel_rfl) (by kernel_rfl) (by rfl) (by assumption) (fun _ _ _ h => h) ?_
                (try simp only [Act.put, List.setIfInBounds_toArray, List.set_cons_zero, List.set_cons_succ])
                refine take_no 31 121 rfl rfl (by kernel_rfl) (by kernel_rfl) (by kernel_rfl) (by rfl) (by assumption) (fun _ _ _ h => h) ?_
                (try simp only [Act.put, List.setIfInBounds_toArray, List.set_cons_zero, List.set_cons_succ])
                refine take_no 32 122 rfl rfl (by kernel_rfl) (by kernel_rfl) (by kernel_rfl) (by rfl) (by assumption) (fun _ _ _ h => h) ?_
                (try simp only [Act.put, List.setIfInBounds_toArray, List.set_cons_zero, List.set_cons_succ])
                refine take_no 33 123 rfl rfl (by kernel_rfl) (by kernel_rfl) (by kernel_rfl) (by rfl) (by assumption) (fun _ _ _ h => h) ?_
                (try simp only [Act.put, List.setIfInBounds_toArray, List.set_cons_zero, List.set_cons_succ])
                refine take_no 34 124 rfl rfl (by kernel_rfl) (by kernel_rfl) (by kernel_rfl) (by rfl) (by assumption) (fun _ _ _ h => h) ?_
                (try simp only [Act.put, List.setIfInBounds_toArray, List.set_cons_zero, List.set_cons_succ])
                refine take_no 35 125 rfl rfl (by kernel_rfl) (by kernel_rfl) (by kernel_rfl) (by rfl) (by assumption) (fun _ _ _ h => h) ?_
                (try simp only [Act.put, List.setIfInBounds_toArray, List.set_cons_zero, List.set_cons_succ])
                refine take_no 36 126 rfl rfl (by kernel_rfl) (by kernel_rfl) (by kernel_rfl) (by rfl) (by assumption) (fun _ _ _ h => h) ?_
                (try simp only [Act.put, List.setIfInBounds_toArray, List.set_cons_zero, List.set_cons_succ])
                refine take_no 37 127 rfl rfl (by kernel_rfl) (by kernel_rfl) (by kernel_rfl) (by rfl) (by assumption) (fun _ _ _ h => h) ?_
                (try simp only [Act.put, List.setIfInBounds_toArray, List.set_cons_zero, List.set_cons_succ])
                refine take_no 38 128 rfl rfl (by kernel_rfl) (by kernel_rfl) (by kernel_rfl) (by rfl) (by assumption) (fun _ _ _ h => h) ?_
                (try simp only [Act.put, List.setIfInBounds_toArray, List.set_cons_zero, List.set_cons_succ])
                refine take_no 39 129 rfl rfl (by kernel_rfl) (by kernel_rfl) (by kernel_rfl) (by rfl) (by assumption) (fun _ _ _ h => h) ?_
                (try simp only [Act.put, List.setIfInBounds_toArray, List.set_cons_zero, List.set_cons_succ])
                refine take_no 40 130 rfl rfl (by kernel_rfl) (by kernel_rfl) (by kernel_rfl) (by rfl) (by assumption) (fun _ _ _ h => h) ?_
                (try simp only [Act.put, List.setIfInBounds_toArray, List.set_cons_zero, List.set_cons_succ])
                refine' take_yes 41 131 rfl rfl (by kernel_rfl) (by kernel_rfl) (by kernel_rfl) (by rfl) ?hC41 (by assumption) (fun _ _ _ h => h) ?rC41
                case hC41 => (intro w hSw; (try dsimp only at hSw); (try simp only [List.getElem_toArray, List.getElem_cons_succ, List.getElem_cons_zero]); (go_simp <;> with_reducible rfl))
                (try simp only [Act.put, List.setIfInBounds_toArray, List.set_cons_zero, List.set_cons_succ])
                refine' take_yes 42 132 rfl rfl (by kernel_rfl) (by kernel_rfl) (by kernel_rfl) (by rfl) ?hC42 (by assumption) (fun _ _ _ h => h) ?rC42
                case hC42 => (intro w hSw; (try dsimp only at hSw); (try simp only [List.getElem_toArray, List.getElem_cons_succ, List.getElem_cons_zero]); (go_simp <;> with_reducible rfl))
                (try simp only [Act.put, List.setIfInBounds_toArray, List.set_cons_zero, List.set_cons_succ])
                refine wpAnyH_done (by kernel_rfl) ?_ _
                have HKW := Lib.hid hkw
                clear hkw
                go_wp2_with fail
                go_roundw
                case rel => exact ⟨i + 1, hit, by go_num, HRR.out.trans (HKW.out.mono sr2)⟩
                case measure => simp [intOf]; omega
              | true =>
                have HCA2 := Lib.hid (HCA.out rfl)
                clear HCA
                go_wp2_with fail
                refine wp_region_held_drew (S := (fun w' => w'.cell? ⟨gb, ob + k, none⟩ = some (.int .i64 (b : Int)) ∧ w'.cell? ⟨gj, oj + k, none⟩ = some (.int .i64 (j : Int)) ∧ w'.cell? ⟨gn, on + i, none⟩ = some (.int .i64 (m : Int)))) (by kernel_rfl) ?_ (fun hHeld => ?_)
                · (try dsimp only); (first | go_keep | ((repeat' apply And.intro) <;> (rw [hb1.cell (by simp; omega)]; simp [*])))
                refine' take_yes 0 90 rfl rfl (by kernel_rfl) (by kernel_rfl) (by kernel_rfl) (by rfl) ?hD0 (by assumption) (fun _ _ _ h => h) ?rD0
                case hD0 => (intro w hSw; (try dsimp only at hSw); (try simp only [List.getElem_toArray, List.getElem_cons_zero]); (go_simp <;> with_reducible rfl))
                (try simp only [Act.put, List.setIfInBounds_toArray, List.set_cons_zero, List.set_cons_succ])
                refine' take_yes 1 91 rfl rfl (by kernel_rfl) (by kernel_rfl) (by kernel_rfl) (by rfl) ?hD1 (by assumption) (fun _ _ _ h => h) ?rD1
                case hD1 => (intro w hSw; (try dsimp only at hSw); (try simp only [List.getElem_toArray, List.getElem_cons_succ, List.getElem_cons_zero]); (go_simp <;> with_reducible rfl))
                (try simp only [Act.put, List.setIfInBounds_toArray, List.set_cons_zero, List.set_cons_succ])
                refine' take_yes 2 92 rfl rfl (by kernel_rfl) (by kernel_rfl) (by kernel_rfl) (by rfl) ?hD2 (by assumption) (fun _ _ _ h => h) ?rD2
                case hD2 => (intro w hSw; (try dsimp only at hSw); (try simp only [List.getElem_toArray, List.getElem_cons_succ, List.getElem_cons_zero]); (go_simp <;> with_reducible rfl))
                (try simp only [Act.put, List.setIfInBounds_toArray, List.set_cons_zero, List.set_cons_succ])
                refine' take_yes 3 93 rfl rfl (by kernel_rfl) (by kernel_rfl) (by kernel_rfl) (by rfl) ?hD3 (by assumption) (fun _ _ _ h => h) ?rD3
                case hD3 => (intro w hSw; (try dsimp only at hSw); (try simp only [List.getElem_toArray, List.getElem_cons_succ, List.getElem_cons_zero]); (go_simp <;> with_reducible rfl))
                (try simp only [Act.put, List.setIfInBounds_toArray, List.set_cons_zero, List.set_cons_succ])
                refine' take_yes 4 94 rfl rfl (by kernel_rfl) (by kernel_rfl) (by kernel_rfl) (by rfl) ?hD4 (by assumption) (fun _ _ _ h => h) ?rD4
                case hD4 => (intro w hSw; (try dsimp only at hSw); (try simp only [List.getElem_toArray, List.getElem_cons_succ, List.getElem_cons_zero]); (go_simp <;> with_reducible rfl))
                (try simp only [Act.put, List.setIfInBounds_toArray, List.set_cons_zero, List.set_cons_succ])
                refine' take_yes 5 95 rfl rfl (by kernel_rfl) (by kernel_rfl) (by kernel_rfl) (by rfl) ?hD5 (by assumption) (fun _ _ _ h => h) ?rD5
                case hD5 => (intro w hSw; (try dsimp only at hSw); (try simp only [List.getElem_toArray, List.getElem_cons_succ, List.getElem_cons_zero]); (go_simp <;> with_reducible rfl))
                (try simp only [Act.put, List.setIfInBounds_toArray, List.set_cons_zero, List.set_cons_succ])
                refine' take_yes 6 96 rfl rfl (by kernel_rfl) (by kernel_rfl) (by kernel_rfl) (by rfl) ?hD6 (by assumption) (fun _ _ _ h => h) ?rD6
                case hD6 => (intro w hSw; (try dsimp only at hSw); (try simp only [List.getElem_toArray, List.getElem_cons_succ, List.getElem_cons_zero]); (go_simp <;> with_reducible rfl))
                (try simp only [Act.put, List.setIfInBounds_toArray, List.set_cons_zero, List.set_cons_succ])
                refine' take_yes 7 97 rfl rfl (by kernel_rfl) (by kernel_rfl) (by kernel_rfl) (by rfl) ?hD7 (by assumption) (fun _ _ _ h => h) ?rD7
                case hD7 => (intro w hSw; (try dsimp only at hSw); (try simp only [List.getElem_toArray, List.getElem_cons_succ, List.getElem_cons_zero]); (go_simp <;> with_reducible rfl))
                (try simp only [Act.put, List.setIfInBounds_toArray, List.set_cons_zero, List.set_cons_succ])
                refine' take_yes 8 98 rfl rfl (by kernel_rfl) (by kernel_rfl) (by kernel_rfl) (by rfl) ?hD8 (by assumption) (fun _ _ _ h => h) ?rD8
                case hD8 => (intro w hSw; (try dsimp only at hSw); (try simp only [List.getElem_toArray, List.getElem_cons_succ, List.getElem_cons_zero]); (go_simp <;> with_reducible rfl))
                (try simp only [Act.put, List.setIfInBounds_toArray, List.set_cons_zero, List.set_cons_succ])
                refine' take_yes 9 99 rfl rfl (by kernel_rfl) (by kernel_rfl) (by kernel_rfl) (by rfl) ?hD9 (by assumption) (fun _ _ _ h => h) ?rD9
                case hD9 => (intro w hSw; (try dsimp only at hSw); (try simp only [List.getElem_toArray, List.getElem_cons_succ, List.getElem_cons_zero]); (go_simp <;> with_reducible rfl))
                (try simp only [Act.put, List.setIfInBounds_toArray, List.set_cons_zero, List.set_cons_succ])
                refine' take_yes 10 100 rfl rfl (by kernel_rfl) (by kernel_rfl) (by kernel_rfl) (by rfl) ?hD10 (by assumption) (fun _ _ _ h => h) ?rD10
                case hD10 => (intro w hSw; (try dsimp only at hSw); (try simp only [List.getElem_toArray, List.getElem_cons_succ, List.getElem_cons_zero]); (go_simp <;> with_reducible rfl))
                (try simp only [Act.put, List.setIfInBounds_toArray, List.set_cons_zero, List.set_cons_succ])
                refine' take_yes 11 101 rfl rfl (by kernel_rfl) (by kernel_rfl) (by kernel_rfl) (by rfl) ?hD11 (by assumption) (fun _ _ _ h => h) ?rD11
                case hD11 => (intro w hSw; (try dsimp only at hSw); (try simp only [List.getElem_toArray, List.getElem_cons_succ, List.getElem_cons_zero]); (go_simp <;> with_reducible rfl))
                (try simp only [Act.put, List.setIfInBounds_toArray, List.set_cons_zero, List.set_cons_succ])
                refine' take_yes 12 102 rfl rfl (by kernel_rfl) (by kernel_rfl) (by kernel_rfl) (by rfl) ?hD12 (by assumption) (fun _ _ _ h => h) ?rD12
                case hD12 => (intro w hSw; (try dsimp only at hSw); (try simp only [List.getElem_toArray, List.getElem_cons_succ, List.getElem_cons_zero]); (go_simp <;> with_reducible rfl))
                (try simp only [Act.put, List.setIfInBounds_toArray, List.set_cons_zero, List.set_cons_succ])
                refine' take_yes 13 103 rfl rfl (by kernel_rfl) (by kernel_rfl) (by kernel_rfl) (by rfl) ?hD13 (by assumption) (fun _ _ _ h => h) ?rD13
                case hD13 => (intro w hSw; (try dsimp only at hSw); (try simp only [List.getElem_toArray, List.getElem_cons_succ, List.getElem_cons_zero]); (go_simp <;> with_reducible rfl))
                (try simp only [Act.put, List.setIfInBounds_toArray, List.set_cons_zero, List.set_cons_succ])
                refine' take_yes 14 104 rfl rfl (by kernel_rfl) (by kernel_rfl) (by kernel_rfl) (by rfl) ?hD14 (by assumption) (fun _ _ _ h => h) ?rD14
                case hD14 => (intro w hSw; (try dsimp only at hSw); (try simp only [List.getElem_toArray, List.getElem_cons_succ, List.getElem_cons_zero]); (go_simp <;> with_reducible rfl))
                (try simp only [Act.put, List.setIfInBounds_toArray, List.set_cons_zero, List.set_cons_succ])
                refine' take_yes 15 105 rfl rfl (by kernel_rfl) (by kernel_rfl) (by kernel_rfl) (by rfl) ?hD15 (by assumption) (fun _ _ _ h => h) ?rD15
                case hD15 => (intro w hSw; (try dsimp only at hSw); (try simp only [List.getElem_toArray, List.getElem_cons_succ, List.getElem_cons_zero]); (go_simp <;> with_reducible rfl))
                (try simp only [Act.put, List.setIfInBounds_toArray, List.set_cons_zero, List.set_cons_succ])
                refine' take_yes 16 106 rfl rfl (by kernel_rfl) (by kernel_rfl) (by kernel_rfl) (by rfl) ?hD16 (by assumption) (fun _ _ _ h => h) ?rD16
                case hD16 => (intro w hSw; (try dsimp only at hSw); (try simp only [List.getElem_toArray, List.getElem_cons_succ, List.getElem_cons_zero]); (go_simp <;> with_reducible rfl))
                (try simp only [Act.put, List.setIfInBounds_toArray, List.set_cons_zero, List.set_cons_succ])
                refine' take_yes 17 107 rfl rfl (by kernel_rfl) (by kernel_rfl) (by kernel_rfl) (by rfl) ?hD17 (by assumption) (fun _ _ _ h => h) ?rD17
                case hD17 => (intro w hSw; (try dsimp only at hSw); (try simp only [List.getElem_toArray, List.getElem_cons_succ, List.getElem_cons_zero]); (go_simp <;> with_reducible rfl))
                (try simp only [Act.put, List.setIfInBounds_toArray, List.set_cons_zero, List.set_cons_succ])
                refine' take_yes 18 108 rfl rfl (by kernel_rfl) (by kernel_rfl) (by kernel_rfl) (by rfl) ?hD18 (by assumption) (fun _ _ _ h => h) ?rD18
                case hD18 => (intro w hSw; (try dsimp only at hSw); (try simp only [List.getElem_toArray, List.getElem_cons_succ, List.getElem_cons_zero]); (go_simp <;> with_reducible rfl))
                (try simp only [Act.put, List.setIfInBounds_toArray, List.set_cons_zero, List.set_cons_succ])
                refine take_call 19 (by kernel_rfl) rfl (by rfl) (fun K hK => ?_)
                (try simp only [List.getElem_toArray, List.getElem_cons_succ, List.getElem_cons_zero])
                go_simp
                (go_at_call 25; refine (HCI2.out _ ?_).mono ?_; (first | exact hkw | exact Kept.drew hkw); rintro e y1 ⟨rfl, hb1⟩; replace hkw : Kept wr y1 := (by first | exact Kept.call hkw hb1 | exact Kept.call (Kept.drew hkw) hb1); have hz := hkw.size)
                (try go_wp2_with fail)
                refine hK.out _ _ ?_ (fun hHeld => ?_)
                · (try dsimp only); (first | go_keep | ((repeat' apply And.intro) <;> (rw [hb1.cell (by simp; omega)]; simp [*])))
                clear hK K
                (try simp only [Act.put, List.setIfInBounds_toArray, List.set_cons_zero, List.set_cons_succ])
                refine' take_yes 20 110 rfl rfl (by kernel_rfl) (by kernel_rfl) (by kernel_rfl) (by rfl) ?hD20 (by assumption) (fun _ _ _ h => h) ?rD20
                case hD20 => (intro w hSw; (try dsimp only at hSw); (try simp only [List.getElem_toArray, List.getElem_cons_succ, List.getElem_cons_zero]); (go_simp <;> with_reducible rfl))
                (try simp only [Act.put, List.setIfInBounds_toArray, List.set_cons_zero, List.set_cons_succ])
                refine' take_yes 21 111 rfl rfl (by kernel_rfl) (by kernel_rfl) (by kernel_rfl) (by rfl) ?hD21 (by assumption) (fun _ _ _ h => h) ?rD21
                case hD21 => (intro w hSw; (try dsimp only at hSw); (try simp only [List.getElem_toArray, List.getElem_cons_succ, List.getElem_cons_zero]); (go_simp <;> with_reducible rfl))
                (try simp only [Act.put, List.setIfInBounds_toArray, List.set_cons_zero, List.set_cons_succ])
                refine' take_yes 22 112 rfl rfl (by kernel_rfl) (by kernel_rfl) (by kernel_rfl) (by rfl) ?hD22 (by assumption) (fun _ _ _ h => h) ?rD22
                case hD22 => (intro w hSw; (try dsimp only at hSw); (try simp only [List.getElem_toArray, List.getElem_cons_succ, List.getElem_cons_zero]); (go_simp <;> with_reducible rfl))
                (try simp only [Act.put, List.setIfInBounds_toArray, List.set_cons_zero, List.set_cons_succ])
                refine' take_yes 23 113 rfl rfl (by kernel_rfl) (by kernel_rfl) (by kernel_rfl) (by rfl) ?hD23 (by assumption) (fun _ _ _ h => h) ?rD23
                case hD23 => (intro w hSw; (try dsimp only at hSw); (try simp only [List.getElem_toArray, List.getElem_cons_succ, List.getElem_cons_zero]); (go_simp <;> with_reducible rfl))
                (try simp only [Act.put, List.setIfInBounds_toArray, List.set_cons_zero, List.set_cons_succ])
                refine' take_yes 24 114 rfl rfl (by kernel_rfl) (by kernel_rfl) (by kernel_rfl) (by rfl) ?hD24 (by assumption) (fun _ _ _ h => h) ?rD24
                case hD24 => (intro w hSw; (try dsimp only at hSw); (try simp only [List.getElem_toArray, List.getElem_cons_succ, List.getElem_cons_zero]); (go_simp <;> with_reducible rfl))
                (try simp only [Act.put, List.setIfInBounds_toArray, List.set_cons_zero, List.set_cons_succ])
                refine' take_yes 25 115 rfl rfl (by kernel_rfl) (by kernel_rfl) (by kernel_rfl) (by rfl) ?hD25 (by assumption) (fun _ _ _ h => h) ?rD25
                case hD25 => (intro w hSw; (try dsimp only at hSw); (try simp only [List.getElem_toArray, List.getElem_cons_succ, List.getElem_cons_zero]); (go_simp <;> with_reducible rfl))
                (try simp only [Act.put, List.setIfInBounds_toArray, List.set_cons_zero, List.set_cons_succ])
                refine' take_yes 26 116 rfl rfl (by kernel_rfl) (by kernel_rfl) (by kernel_rfl) (by rfl) ?hD26 (by assumption) (fun _ _ _ h => h) ?rD26
                case hD26 => (intro w hSw; (try dsimp only at hSw); (try simp only [List.getElem_toArray, List.getElem_cons_succ, List.getElem_cons_zero]); (go_simp <;> with_reducible rfl))
                (try simp only [Act.put, List.setIfInBounds_toArray, List.set_cons_zero, List.set_cons_succ])
                refine' take_yes 27 117 rfl rfl (by kernel_rfl) (by kernel_rfl) (by kernel_rfl) (by rfl) ?hD27 (by assumption) (fun _ _ _ h => h) ?rD27
                case hD27 => (intro w hSw; (try dsimp only at hSw); (try simp only [List.getElem_toArray, List.getElem_cons_succ, List.getElem_cons_zero]); (go_simp <;> with_reducible rfl))
                (try simp only [Act.put, List.setIfInBounds_toArray, List.set_cons_zero, List.set_cons_succ])
                refine take_call 28 (by kernel_rfl) rfl (by rfl) (fun K hK => ?_)
                (try simp only [List.getElem_toArray, List.getElem_cons_succ, List.getElem_cons_zero])
                go_simp
                (go_at_call 18; refine (HCR.out _ ?_).mono ?_; (first | exact hkw | exact Kept.drew hkw); rintro e y1 ⟨rfl, hb1⟩; replace hkw : Kept wr y1 := (by first | exact Kept.call hkw hb1 | exact Kept.call (Kept.drew hkw) hb1); have hz := hkw.size)
                (try go_wp2_with fail)
                refine hK.out _ _ ?_ (fun hHeld => ?_)
                · (try dsimp only); (first | go_keep | ((repeat' apply And.intro) <;> (rw [hb1.cell (by simp; omega)]; simp [*])))
                clear hK K
                (try simp only [Act.put, List.setIfInBounds_toArray, List.set_cons_zero, List.set_cons_succ])
                refine' take_yes 29 119 rfl rfl (by kernel_rfl) (by kernel_rfl) (by kernel_rfl) (by rfl) ?hD29 (by assumption) (fun _ _ _ h => h) ?rD29
                case hD29 => (intro w hSw; (try dsimp only at hSw); (try simp only [List.getElem_toArray, List.getElem_cons_succ, List.getElem_cons_zero]); (go_simp <;> with_reducible rfl))
                (try simp only [Act.put, List.setIfInBounds_toArray, List.set_cons_zero, List.set_cons_succ])
                refine' take_yes 30 120 rfl rfl (by kernel_rfl) (by kernel_rfl) (by kernel_rfl) (by rfl) ?hD30 (by assumption) (fun _ _ _ h => h) ?rD30
                case hD30 => (intro w hSw; (try dsimp only at hSw); (try simp only [List.getElem_toArray, List.getElem_cons_succ, List.getElem_cons_zero]); (go_simp <;> with_reducible rfl))
                (try simp only [Act.put, List.setIfInBounds_toArray, List.set_cons_zero, List.set_cons_succ])
                refine' take_yes 31 121 rfl rfl (by kernel_rfl) (by kernel_rfl) (by kernel_rfl) (by rfl) ?hD31 (by assumption) (fun _ _ _ h => h) ?rD31
                case hD31 => (intro w hSw; (try dsimp only at hSw); (try simp only [List.getElem_toArray, List.getElem_cons_succ, List.getElem_cons_zero]); (go_simp <;> with_reducible rfl))
                (try simp only [Act.put, List.setIfInBounds_toArray, List.set_cons_zero, List.set_cons_succ])
                refine' take_yes 32 122 rfl rfl (by kernel_rfl) (by kernel_rfl) (by kernel_rfl) (by rfl) ?hD32 (by assumption) (fun _ _ _ h => h) ?rD32
                case hD32 => (intro w hSw; (try dsimp only at hSw); (try simp only [List.getElem_toArray, List.getElem_cons_succ, List.getElem_cons_zero]); (go_simp <;> with_reducible rfl))
                (try simp only [Act.put, List.setIfInBounds_toArray, List.set_cons_zero, List.set_cons_succ])
                refine' take_yes 33 123 rfl rfl (by kernel_rfl) (by kernel_rfl) (by kernel_rfl) (by rfl) ?hD33 (by assumption) (fun _ _ _ h => h) ?rD33
                case hD33 => (intro w hSw; (try dsimp only at hSw); (try simp only [List.getElem_toArray, List.getElem_cons_succ, List.getElem_cons_zero]); (go_simp <;> with_reducible rfl))
                (try simp only [Act.put, List.setIfInBounds_toArray, List.set_cons_zero, List.set_cons_succ])
                refine' take_yes 34 124 rfl rfl (by kernel_rfl) (by kernel_rfl) (by kernel_rfl) (by rfl) ?hD34 (by assumption) (fun _ _ _ h => h) ?rD34
                case hD34 => (intro w hSw; (try dsimp only at hSw); (try simp only [List.getElem_toArray, List.getElem_cons_succ, List.getElem_cons_zero]); (go_simp <;> with_reducible rfl))
                (try simp only [Act.put, List.setIfInBounds_toArray, List.set_cons_zero, List.set_cons_succ])
                refine' take_yes 35 125 rfl rfl (by kernel_rfl) (by kernel_rfl) (by kernel_rfl) (by rfl) ?hD35 (by assumption) (fun _ _ _ h => h) ?rD35
                case hD35 => (intro w hSw; (try dsimp only at hSw); (try simp only [List.getElem_toArray, List.getElem_cons_succ, List.getElem_cons_zero]); (go_simp <;> with_reducible rfl))
                (try simp only [Act.put, List.setIfInBounds_toArray, List.set_cons_zero, List.set_cons_succ])
                refine' take_yes 36 126 rfl rfl (by kernel_rfl) (by kernel_rfl) (by kernel_rfl) (by rfl) ?hD36 (by assumption) (fun _ _ _ h => h) ?rD36
                case hD36 => (intro w hSw; (try dsimp only at hSw); (try simp only [List.getElem_toArray, List.getElem_cons_succ, List.getElem_cons_zero]); (go_simp <;> with_reducible rfl))
                (try simp only [Act.put, List.setIfInBounds_toArray, List.set_cons_zero, List.set_cons_succ])
                refine' take_yes 37 127 rfl rfl (by kernel_rfl) (by kernel_rfl) (by kernel_rfl) (by rfl) ?hD37 (by assumption) (fun _ _ _ h => h) ?rD37
                case hD37 => (intro w hSw; (try dsimp only at hSw); (try simp only [List.getElem_toArray, List.getElem_cons_succ, List.getElem_cons_zero]); (go_simp <;> with_reducible rfl))
                (try simp only [Act.put, List.setIfInBounds_toArray, List.set_cons_zero, List.set_cons_succ])
                refine' take_yes 38 128 rfl rfl (by kernel_rfl) (by kernel_rfl) (by kernel_rfl) (by rfl) ?hD38 (by assumption) (fun _ _ _ h => h) ?rD38
                case hD38 => (intro w hSw; (try dsimp only at hSw); (try simp only [List.getElem_toArray, List.getElem_cons_succ, List.getElem_cons_zero]); (go_simp <;> with_reducible rfl))
                (try simp only [Act.put, List.setIfInBounds_toArray, List.set_cons_zero, List.set_cons_succ])
                refine take_call 39 (by kernel_rfl) rfl (by rfl) (fun K hK => ?_)
                (try simp only [List.getElem_toArray, List.getElem_cons_succ, List.getElem_cons_zero])
                go_simp
                (go_at_call 26; refine (HCA2.out _ ?_).mono ?_; (first | exact hkw | exact Kept.drew hkw); rintro e y1 ⟨rfl, hb1⟩; replace hkw : Kept wr y1 := (by first | exact Kept.call hkw hb1 | exact Kept.call (Kept.drew hkw) hb1); have hz := hkw.size)
                (try go_wp2_with fail)
                refine hK.out _ _ ?_ (fun hHeld => ?_)
                · (try dsimp only); (first | go_keep | ((repeat' apply And.intro) <;> (rw [hb1.cell (by simp; omega)]; simp [*])))
                clear hK K
                (try simp only [Act.put, List.setIfInBounds_toArray, List.set_cons_zero, List.set_cons_succ])
                refine' take_yes 40 130 rfl rfl (by kernel_rfl) (by kernel_rfl) (by kernel_rfl) (by rfl) ?hD40 (by assumption) (fun _ _ _ h => h) ?rD40
                case hD40 => (intro w hSw; (try dsimp only at hSw); (try simp only [List.getElem_toArray, List.getElem_cons_succ, List.getElem_cons_zero]); (go_simp <;> with_reducible rfl))
                (try simp only [Act.put, List.setIfInBounds_toArray, List.set_cons_zero, List.set_cons_succ])
                refine' take_yes 41 131 rfl rfl (by kernel_rfl) (by kernel_rfl) (by kernel_rfl) (by rfl) ?hD41 (by assumption) (fun _ _ _ h => h) ?rD41
                case hD41 => (intro w hSw; (try dsimp only at hSw); (try simp only [List.getElem_toArray, List.getElem_cons_succ, List.getElem_cons_zero]); (go_simp <;> with_reducible rfl))
                (try simp only [Act.put, List.setIfInBounds_toArray, List.set_cons_zero, List.set_cons_succ])
                refine' take_yes 42 132 rfl rfl (by kernel_rfl) (by kernel_rfl) (by kernel_rfl) (by rfl) ?hD42 (by assumption) (fun _ _ _ h => h) ?rD42
                case hD42 => (intro w hSw; (try dsimp only at hSw); (try simp only [List.getElem_toArray, List.getElem_cons_succ, List.getElem_cons_zero]); (go_simp <;> with_reducible rfl))
                (try simp only [Act.put, List.setIfInBounds_toArray, List.set_cons_zero, List.set_cons_succ])
                refine wpAnyH_done (by kernel_rfl) ?_ _
                have HKW := Lib.hid hkw
                clear hkw
                go_wp2_with fail
                go_roundw
                case rel => exact ⟨i + 1, hit, by go_num, HRR.out.trans (HKW.out.mono sr2)⟩
                case measure => simp [intOf]; omega
          · obtain rfl : i = ns.length := by omega
            clear HNR HNI HIQ HJO HII HJQ HNS h6 HB6 HO6 HBX HBR HBM HJG HBS HJL HJX HN1 HB1 HBy HL HD HJA HIN
            go_wp2_with fail
            go_loopw [10] (fun i wr' => ∃ m : Nat, m ≤ is.length ∧ i = .int .i64 m ∧ Below wr.heap.size wr wr') (fun i _ => is.length - (intOf i).toNat)
            case atStart => exact ⟨0, Nat.zero_le _, rfl, Below.refl _ _⟩
            case round =>
              obtain ⟨i, hi, rfl, hb⟩ := hrel
              have sr3 := hb.size
              have HRR := Lib.hid hb
              have HKR2 := Lib.hid (HKR.out.trans (hb.mono (Nat.le_trans s8 sr2)))
              have HBR9 := Lib.hid (HBR8.out.trans (hb.mono (by omega)))
              clear hb
              by_cases hix : i < is.length
              · obtain ⟨gx, ox, ha7, hgx, hcx⟩ := (HI7.out.kept HKR2.out).2 i hix
                have hfw : forwardQ p R RA (b : Int) = true → _ := fun h => HFW.out h _ (List.getElem_mem hix)
                generalize is[i] = x at *
                subst ha7
                have hcb := HKR2.out.cell (p := ⟨gb, ob + k, none⟩) hgb7
                rw [HCB.out] at hcb
                have hcj := HKR2.out.cell (p := ⟨gj, oj + k, none⟩) hgj7
                rw [HCJ7.out] at hcj
                have hkw : Kept wr wr := Below.refl _ _
                have hz := hkw.size
                have hgxl : gx < wr.heap.size := by omega
                have hgbl2 : gb < wr.heap.size := by omega
                have hgjl2 : gj < wr.heap.size := by omega
                have i0 : (0 : Int) ≤ (i : Int) := Int.natCast_nonneg _
                have i1 : (i : Int) < (is.length : Int) := by omega
                have HCF := Lib.hid (fun W (hW : Kept wr W) => (show Calls Try.prog 27 #[.slice a1 p.length c1, .int .i64 (b : Int)] W (fun e w' => e = .returned (.bool (forwardQ p R RA b)) ∧ Below W.heap.size W w') from
                  pForward_any w1.heap.size W a1 p R HR.out RA HRA.out c1 b (by omega) (HN5.out.kept ((HBR9.out.trans (hW.mono (by omega))).mono (by omega))) (by have := hW.size; omega)))
                generalize forwardQ p R RA (b : Int) = fw at *
                cases fw with
                | false =>
                  clear hfw
                  go_wp2_with fail
                  refine wp_region_held_drew (S := (fun w' => w'.cell? ⟨gb, ob + k, none⟩ = some (.int .i64 (b : Int)) ∧ w'.cell? ⟨gj, oj + k, none⟩ = some (.int .i64 (j : Int)) ∧ w'.cell? ⟨gx, ox + i, none⟩ = some (.int .i64 x))) (by kernel_rfl) ?_ (fun hHeld => ?_)
                  · (try dsimp only); (first | go_keep | ((repeat' apply And.intro) <;> (rw [hb1.cell (by simp; omega)]; simp [*])))
                  refine' take_yes 0 139 rfl rfl (by kernel_rfl) (by kernel_rfl) (by kernel_rfl) (by rfl) ?hE0 (by assumption) (fun _ _ _ h => h) ?rE0
                  case hE0 => (intro w hSw; (try dsimp only at hSw); (try simp only [List.getElem_toArray, List.getElem_cons_zero]); (go_simp <;> with_reducible rfl))
                  (try simp only [Act.put, List.setIfInBounds_toArray, List.set_cons_zero, List.set_cons_succ])
                  refine' take_yes 1 140 rfl rfl (by kernel_rfl) (by kernel_rfl) (by kernel_rfl) (by rfl) ?hE1 (by assumption) (fun _ _ _ h => h) ?rE1
                  case hE1 => (intro w hSw; (try dsimp only at hSw); (try simp only [List.getElem_toArray, List.getElem_cons_succ, List.getElem_cons_zero]); (go_simp <;> with_reducible rfl))
                  (try simp only [Act.put, List.setIfInBounds_toArray, List.set_cons_zero, List.set_cons_succ])
                  refine' take_yes 2 141 rfl rfl (by kernel_rfl) (by kernel_rfl) (by kernel_rfl) (by rfl) ?hE2 (by assumption) (fun _ _ _ h => h) ?rE2
                  case hE2 => (intro w hSw; (try dsimp only at hSw); (try simp only [List.getElem_toArray, List.getElem_cons_succ, List.getElem_cons_zero]); (go_simp <;> with_reducible rfl))
                  (try simp only [Act.put, List.setIfInBounds_toArray, List.set_cons_zero, List.set_cons_succ])
                  refine' take_yes 3 142 rfl rfl (by kernel_rfl) (by kernel_rfl) (by kernel_rfl) (by rfl) ?hE3 (by assumption) (fun _ _ _ h => h) ?rE3
                  case hE3 => (intro w hSw; (try dsimp only at hSw); (try simp only [List.getElem_toArray, List.getElem_cons_succ, List.getElem_cons_zero]); (go_simp <;> with_reducible rfl))
                  (try simp only [Act.put, List.setIfInBounds_toArray, List.set_cons_zero, List.set_cons_succ])
                  refine' take_yes 4 143 rfl rfl (by kernel_rfl) (by kernel_rfl) (by kernel_rfl) (by rfl) ?hE4 (by assumption) (fun _ _ _ h => h) ?rE4
                  case hE4 => (intro w hSw; (try dsimp only at hSw); (try simp only [List.getElem_toArray, List.getElem_cons_succ, List.getElem_cons_zero]); (go_simp <;> with_reducible rfl))
                  (try simp only [Act.put, List.setIfInBounds_toArray, List.set_cons_zero, List.set_cons_succ])
                  refine take_call 5 (by kernel_rfl) rfl (by rfl) (fun K hK => ?_)
                  (try simp only [List.getElem_toArray, List.getElem_cons_succ, List.getElem_cons_zero])
                  go_simp
                  (go_at_call 27; refine (HCF.out _ ?_).mono ?_; (first | exact hkw | exact Kept.drew hkw); rintro e y1 ⟨rfl, hb1⟩; replace hkw : Kept wr y1 := (by first | exact Kept.call hkw hb1 | exact Kept.call (Kept.drew hkw) hb1); have hz := hkw.size)
                  (try go_wp2_with fail)
                  refine hK.out _ _ ?_ (fun hHeld => ?_)
                  · (try dsimp only); (first | go_keep | ((repeat' apply And.intro) <;> (rw [hb1.cell (by simp; omega)]; simp [*])))
                  clear hK K
                  (try simp only [Act.put, List.setIfInBounds_toArray, List.set_cons_zero, List.set_cons_succ])
                  refine' take_yes 6 145 rfl rfl (by kernel_rfl) (by kernel_rfl) (by kernel_rfl) (by rfl) ?hE6 (by assumption) (fun _ _ _ h => h) ?rE6
                  case hE6 => (intro w hSw; (try dsimp only at hSw); (try simp only [List.getElem_toArray, List.getElem_cons_succ, List.getElem_cons_zero]); (go_simp <;> with_reducible rfl))
                  (try simp only [Act.put, List.setIfInBounds_toArray, List.set_cons_zero, List.set_cons_succ])
                  refine take_no 7 146 rfl rfl (by kernel_rfl) (by kernel_rfl) (by kernel_rfl) (by rfl) (by assumption) (fun _ _ _ h => h) ?_
                  (try simp only [Act.put, List.setIfInBounds_toArray, List.set_cons_zero, List.set_cons_succ])
                  refine take_no 8 147 rfl rfl (by kernel_rfl) (by kernel_rfl) (by kernel_rfl) (by rfl) (by assumption) (fun _ _ _ h => h) ?_
                  (try simp only [Act.put, List.setIfInBounds_toArray, List.set_cons_zero, List.set_cons_succ])
                  refine take_no 9 148 rfl rfl (by kernel_rfl) (by kernel_rfl) (by kernel_rfl) (by rfl) (by assumption) (fun _ _ _ h => h) ?_
                  (try simp only [Act.put, List.setIfInBounds_toArray, List.set_cons_zero, List.set_cons_succ])
                  refine take_no 10 149 rfl rfl (by kernel_rfl) (by kernel_rfl) (by kernel_rfl) (by rfl) (by assumption) (fun _ _ _ h => h) ?_
                  (try simp only [Act.put, List.setIfInBounds_toArray, List.set_cons_zero, List.set_cons_succ])
                  refine take_no 11 150 rfl rfl (by kernel_rfl) (by kernel_rfl) (by kernel_rfl) (by rfl) (by assumption) (fun _ _ _ h => h) ?_
                  (try simp only [Act.put, List.setIfInBounds_toArray, List.set_cons_zero, List.set_cons_succ])
                  refine take_no 12 151 rfl rfl (by kernel_rfl) (by kernel_rfl) (by kernel_rfl) (by rfl) (by assumption) (fun _ _ _ h => h) ?_
                  (try simp only [Act.put, List.setIfInBounds_toArray, List.set_cons_zero, List.set_cons_succ])
                  refine take_no 13 152 rfl rfl (by kernel_rfl) (by kernel_rfl) (by kernel_rfl) (by rfl) (by assumption) (fun _ _ _ h => h) ?_
                  (try simp only [Act.put, List.setIfInBounds_toArray, List.set_cons_zero, List.set_cons_succ])
                  refine take_no 14 153 rfl rfl (by kernel_rfl) (by kernel_rfl) (by kernel_rfl) (by rfl) (by assumption) (fun _ _ _ h => h) ?_
                  (try simp only [Act.put, List.setIfInBounds_toArray, List.set_cons_zero, List.set_cons_succ])
                  refine take_no 15 154 rfl rfl (by kernel_rfl) (by kernel_rfl) (by kernel_rfl) (by rfl) (by assumption) (fun _ _ _ h => h) ?_
                  (try simp only [Act.put, List.setIfInBounds_toArray, List.set_cons_zero, List.set_cons_succ])
                  refine take_no 16 155 rfl rfl (by kernel_rfl) (by kernel_rfl) (by kernel_rfl) (by rfl) (by assumption) (fun _ _ _ h => h) ?_
                  (try simp only [Act.put, List.setIfInBounds_toArray, List.set_cons_zero, List.set_cons_succ])
                  refine take_no 17 156 rfl rfl (by kernel_rfl) (by kernel_rfl) (by kernel_rfl) (by rfl) (by assumption) (fun _ _ _ h => h) ?_
                  (try simp only [Act.put, List.setIfInBounds_toArray, List.set_cons_zero, List.set_cons_succ])
                  refine take_no 18 157 rfl rfl (by kernel_rfl) (by kernel_rfl) (by kernel_rfl) (by rfl) (by assumption) (fun _ _ _ h => h) ?_
                  (try simp only [Act.put, List.setIfInBounds_toArray, List.set_cons_zero, List.set_cons_succ])
                  refine take_no 19 158 rfl rfl (by kernel_rfl) (by kernel_rfl) (by kernel_rfl) (by rfl) (by assumption) (fun _ _ _ h => h) ?_
                  (try simp only [Act.put, List.setIfInBounds_toArray, List.set_cons_zero, List.set_cons_succ])
                  refine take_no 20 159 rfl rfl (by kernel_rfl) (by kernel_rfl) (by kernel_rfl) (by rfl) (by assumption) (fun _ _ _ h => h) ?_
                  (try simp only [Act.put, List.setIfInBounds_toArray, List.set_cons_zero, List.set_cons_succ])
                  refine take_no 21 160 rfl rfl (by kernel_rfl) (by kernel_rfl) (by kernel_rfl) (by rfl) (by assumption) (fun _ _ _ h => h) ?_
                  (try simp only [Act.put, List.setIfInBounds_toArray, List.set_cons_zero, List.set_cons_succ])
                  refine take_no 22 161 rfl rfl (by kernel_rfl) (by kernel_rfl) (by kernel_rfl) (by rfl) (by assumption) (fun _ _ _ h => h) ?_
                  (try simp only [Act.put, List.setIfInBounds_toArray, List.set_cons_zero, List.set_cons_succ])
                  refine take_no 23 162 rfl rfl (by kernel_rfl) (by kernel_rfl) (by kernel_rfl) (by rfl) (by assumption) (fun _ _ _ h => h) ?_
                  (try simp only [Act.put, List.setIfInBounds_toArray, List.set_cons_zero, List.set_cons_succ])
                  refine take_no 24 163 rfl rfl (by kernel_rfl) (by kernel_rfl) (by kernel_rfl) (by rfl) (by assumption) (fun _ _ _ h => h) ?_
                  (try simp only [Act.put, List.setIfInBounds_toArray, List.set_cons_zero, List.set_cons_succ])
                  refine take_no 25 164 rfl rfl (by kernel_rfl) (by kernel_rfl) (by kernel_rfl) (by rfl) (by assumption) (fun _ _ _ h => h) ?_
                  (try simp only [Act.put, List.setIfInBounds_toArray, List.set_cons_zero, List.set_cons_succ])
                  refine take_no 26 165 rfl rfl (by kernel_rfl) (by kernel_rfl) (by kernel_rfl) (by rfl) (by assumption) (fun _ _ _ h => h) ?_
                  (try simp only [Act.put, List.setIfInBounds_toArray, List.set_cons_zero, List.set_cons_succ])
                  refine' take_yes 27 166 rfl rfl (by kernel_rfl) (by kernel_rfl) (by kernel_rfl) (by rfl) ?hE27 (by assumption) (fun _ _ _ h => h) ?rE27
                  case hE27 => (intro w hSw; (try dsimp only at hSw); (try simp only [List.getElem_toArray, List.getElem_cons_succ, List.getElem_cons_zero]); (go_simp <;> with_reducible rfl))
                  (try simp only [Act.put, List.setIfInBounds_toArray, List.set_cons_zero, List.set_cons_succ])
                  refine wpAnyH_done (by kernel_rfl) ?_ _
                  have HKW := Lib.hid hkw
                  clear hkw
                  go_wp2_with fail
                  go_roundw
                  case rel => exact ⟨i + 1, hix, by go_num, HRR.out.trans (HKW.out.mono sr3)⟩
                  case measure => simp [intOf]; omega
                | true =>
                  obtain ⟨q0, q1⟩ := hfw rfl
                  go_wp2_with fail
                  refine wp_region_held_drew (S := (fun w' => w'.cell? ⟨gb, ob + k, none⟩ = some (.int .i64 (b : Int)) ∧ w'.cell? ⟨gj, oj + k, none⟩ = some (.int .i64 (j : Int)) ∧ w'.cell? ⟨gx, ox + i, none⟩ = some (.int .i64 x))) (by kernel_rfl) ?_ (fun hHeld => ?_)
                  · (try dsimp only); (first | go_keep | ((repeat' apply And.intro) <;> (rw [hb1.cell (by simp; omega)]; simp [*])))
                  refine' take_yes 0 139 rfl rfl (by kernel_rfl) (by kernel_rfl) (by kernel_rfl) (by rfl) ?hF0 (by assumption) (fun _ _ _ h => h) ?rF0
                  case hF0 => (intro w hSw; (try dsimp only at hSw); (try simp only [List.getElem_toArray, List.getElem_cons_zero]); (go_simp <;> with_reducible rfl))
                  (try simp only [Act.put, List.setIfInBounds_toArray, List.set_cons_zero, List.set_cons_succ])
                  refine' take_yes 1 140 rfl rfl (by kernel_rfl) (by kernel_rfl) (by kernel_rfl) (by rfl) ?hF1 (by assumption) (fun _ _ _ h => h) ?rF1
                  case hF1 => (intro w hSw; (try dsimp only at hSw); (try simp only [List.getElem_toArray, List.getElem_cons_succ, List.getElem_cons_zero]); (go_simp <;> with_reducible rfl))
                  (try simp only [Act.put, List.setIfInBounds_toArray, List.set_cons_zero, List.set_cons_succ])
                  refine' take_yes 2 141 rfl rfl (by kernel_rfl) (by kernel_rfl) (by kernel_rfl) (by rfl) ?hF2 (by assumption) (fun _ _ _ h => h) ?rF2
                  case hF2 => (intro w hSw; (try dsimp only at hSw); (try simp only [List.getElem_toArray, List.getElem_cons_succ, List.getElem_cons_zero]); (go_simp <;> with_reducible rfl))
                  (try simp only [Act.put, List.setIfInBounds_toArray, List.set_cons_zero, List.set_cons_succ])
                  refine' take_yes 3 142 rfl rfl (by kernel_rfl) (by kernel_rfl) (by kernel_rfl) (by rfl) ?hF3 (by assumption) (fun _ _ _ h => h) ?rF3
                  case hF3 => (intro w hSw; (try dsimp only at hSw); (try simp only [List.getElem_toArray, List.getElem_cons_succ, List.getElem_cons_zero]); (go_simp <;> with_reducible rfl))
                  (try simp only [Act.put, List.setIfInBounds_toArray, List.set_cons_zero, List.set_cons_succ])
                  refine' take_yes 4 143 rfl rfl (by kernel_rfl) (by kernel_rfl) (by kernel_rfl) (by rfl) ?hF4 (by assumption) (fun _ _ _ h => h) ?rF4
                  case hF4 => (intro w hSw; (try dsimp only at hSw); (try simp only [List.getElem_toArray, List.getElem_cons_succ, List.getElem_cons_zero]); (go_simp <;> with_reducible rfl))
                  (try simp only [Act.put, List.setIfInBounds_toArray, List.set_cons_zero, List.set_cons_succ])
                  refine take_call 5 (by kernel_rfl) rfl (by rfl) (fun K hK => ?_)
                  (try simp only [List.getElem_toArray, List.getElem_cons_succ, List.getElem_cons_zero])
                  go_simp
                  (go_at_call 27; refine (HCF.out _ ?_).mono ?_; (first | exact hkw | exact Kept.drew hkw); rintro e y1 ⟨rfl, hb1⟩; replace hkw : Kept wr y1 := (by first | exact Kept.call hkw hb1 | exact Kept.call (Kept.drew hkw) hb1); have hz := hkw.size)
                  (try go_wp2_with fail)
                  refine hK.out _ _ ?_ (fun hHeld => ?_)
                  · (try dsimp only); (first | go_keep | ((repeat' apply And.intro) <;> (rw [hb1.cell (by simp; omega)]; simp [*])))
                  clear hK K
                  (try simp only [Act.put, List.setIfInBounds_toArray, List.set_cons_zero, List.set_cons_succ])
                  refine' take_yes 6 145 rfl rfl (by kernel_rfl) (by kernel_rfl) (by kernel_rfl) (by rfl) ?hF6 (by assumption) (fun _ _ _ h => h) ?rF6
                  case hF6 => (intro w hSw; (try dsimp only at hSw); (try simp only [List.getElem_toArray, List.getElem_cons_succ, List.getElem_cons_zero]); (go_simp <;> with_reducible rfl))
                  (try simp only [Act.put, List.setIfInBounds_toArray, List.set_cons_zero, List.set_cons_succ])
                  refine' take_yes 7 146 rfl rfl (by kernel_rfl) (by kernel_rfl) (by kernel_rfl) (by rfl) ?hF7 (by assumption) (fun _ _ _ h => h) ?rF7
                  case hF7 => (intro w hSw; (try dsimp only at hSw); (try simp only [List.getElem_toArray, List.getElem_cons_succ, List.getElem_cons_zero]); (go_simp <;> with_reducible rfl))
                  (try simp only [Act.put, List.setIfInBounds_toArray, List.set_cons_zero, List.set_cons_succ])
                  refine' take_yes 8 147 rfl rfl (by kernel_rfl) (by kernel_rfl) (by kernel_rfl) (by rfl) ?hF8 (by assumption) (fun _ _ _ h => h) ?rF8
                  case hF8 => (intro w hSw; (try dsimp only at hSw); (try simp only [List.getElem_toArray, List.getElem_cons_succ, List.getElem_cons_zero]); (go_simp <;> with_reducible rfl))
                  (try simp only [Act.put, List.setIfInBounds_toArray, List.set_cons_zero, List.set_cons_succ])
                  refine' take_yes 9 148 rfl rfl (by kernel_rfl) (by kernel_rfl) (by kernel_rfl) (by rfl) ?hF9 (by assumption) (fun _ _ _ h => h) ?rF9
                  case hF9 => (intro w hSw; (try dsimp only at hSw); (try simp only [List.getElem_toArray, List.getElem_cons_succ, List.getElem_cons_zero]); (go_simp <;> with_reducible rfl))
                  (try simp only [Act.put, List.setIfInBounds_toArray, List.set_cons_zero, List.set_cons_succ])
                  refine' take_yes 10 149 rfl rfl (by kernel_rfl) (by kernel_rfl) (by kernel_rfl) (by rfl) ?hF10 (by assumption) (fun _ _ _ h => h) ?rF10
                  case hF10 => (intro w hSw; (try dsimp only at hSw); (try simp only [List.getElem_toArray, List.getElem_cons_succ, List.getElem_cons_zero]); (go_simp <;> with_reducible rfl))
                  (try simp only [Act.put, List.setIfInBounds_toArray, List.set_cons_zero, List.set_cons_succ])
                  refine' take_yes 11 150 rfl rfl (by kernel_rfl) (by kernel_rfl) (by kernel_rfl) (by rfl) ?hF11 (by assumption) (fun _ _ _ h => h) ?rF11
                  case hF11 => (intro w hSw; (try dsimp only at hSw); (try simp only [List.getElem_toArray, List.getElem_cons_succ, List.getElem_cons_zero]); (go_simp <;> with_reducible rfl))
                  (try simp only [Act.put, List.setIfInBounds_toArray, List.set_cons_zero, List.set_cons_succ])
                  refine' take_yes 12 151 rfl rfl (by kernel_rfl) (by kernel_rfl) (by kernel_rfl) (by rfl) ?hF12 (by assumption) (fun _ _ _ h => h) ?rF12
                  case hF12 => (intro w hSw; (try dsimp only at hSw); (try simp only [List.getElem_toArray, List.getElem_cons_succ, List.getElem_cons_zero]); (go_simp <;> with_reducible rfl))
                  (try simp only [Act.put, List.setIfInBounds_toArray, List.set_cons_zero, List.set_cons_succ])
                  refine' take_yes 13 152 rfl rfl (by kernel_rfl) (by kernel_rfl) (by kernel_rfl) (by rfl) ?hF13 (by assumption) (fun _ _ _ h => h) ?rF13
                  case hF13 => (intro w hSw; (try dsimp only at hSw); (try simp only [List.getElem_toArray, List.getElem_cons_succ, List.getElem_cons_zero]); (go_simp <;> with_reducible rfl))
                  (try simp only [Act.put, List.setIfInBounds_toArray, List.set_cons_zero, List.set_cons_succ])
                  refine' take_yes 14 153 rfl rfl (by kernel_rfl) (by kernel_rfl) (by kernel_rfl) (by rfl) ?hF14 (by assumption) (fun _ _ _ h => h) ?rF14
                  case hF14 => (intro w hSw; (try dsimp only at hSw); (try simp only [List.getElem_toArray, List.getElem_cons_succ, List.getElem_cons_zero]); (go_simp <;> with_reducible rfl))
                  (try simp only [Act.put, List.setIfInBounds_toArray, List.set_cons_zero, List.set_cons_succ])
                  refine' take_yes 15 154 rfl rfl (by kernel_rfl) (by kernel_rfl) (by kernel_rfl) (by rfl) ?hF15 (by assumption) (fun _ _ _ h => h) ?rF15
                  case hF15 => (intro w hSw; (try dsimp only at hSw); (try simp only [List.getElem_toArray, List.getElem_cons_succ, List.getElem_cons_zero]); (go_simp <;> with_reducible rfl))
                  (try simp only [Act.put, List.setIfInBounds_toArray, List.set_cons_zero, List.set_cons_succ])
                  refine' take_yes 16 155 rfl rfl (by kernel_rfl) (by kernel_rfl) (by kernel_rfl) (by rfl) ?hF16 (by assumption) (fun _ _ _ h => h) ?rF16
                  case hF16 => (intro w hSw; (try dsimp only at hSw); (try simp only [List.getElem_toArray, List.getElem_cons_succ, List.getElem_cons_zero]); (go_simp <;> with_reducible rfl))
                  (try simp only [Act.put, List.setIfInBounds_toArray, List.set_cons_zero, List.set_cons_succ])
                  refine' take_yes 17 156 rfl rfl (by kernel_rfl) (by kernel_rfl) (by kernel_rfl) (by rfl) ?hF17 (by assumption) (fun _ _ _ h => h) ?rF17
                  case hF17 => (intro w hSw; (try dsimp only at hSw); (try simp only [List.getElem_toArray, List.getElem_cons_succ, List.getElem_cons_zero]); (go_simp <;> with_reducible rfl))
                  (try simp only [Act.put, List.setIfInBounds_toArray, List.set_cons_zero, List.set_cons_succ])
                  refine' take_yes 18 157 rfl rfl (by kernel_rfl) (by kernel_rfl) (by kernel_rfl) (by rfl) ?hF18 (by assumption) (fun _ _ _ h => h) ?rF18
                  case hF18 => (intro w hSw; (try dsimp only at hSw); (try simp only [List.getElem_toArray, List.getElem_cons_succ, List.getElem_cons_zero]); (go_simp <;> with_reducible rfl))
                  (try simp only [Act.put, List.setIfInBounds_toArray, List.set_cons_zero, List.set_cons_succ])
                  refine' take_yes 19 158 rfl rfl (by kernel_rfl) (by kernel_rfl) (by kernel_rfl) (by rfl) ?hF19 (by assumption) (fun _ _ _ h => h) ?rF19
                  case hF19 => (intro w hSw; (try dsimp only at hSw); (try simp only [List.getElem_toArray, List.getElem_cons_succ, List.getElem_cons_zero]); (go_simp <;> with_reducible rfl))
                  (try simp only [Act.put, List.setIfInBounds_toArray, List.set_cons_zero, List.set_cons_succ])
                  refine' take_yes 20 159 rfl rfl (by kernel_rfl) (by kernel_rfl) (by kernel_rfl) (by rfl) ?hF20 (by assumption) (fun _ _ _ h => h) ?rF20
                  case hF20 => (intro w hSw; (try dsimp only at hSw); (try simp only [List.getElem_toArray, List.getElem_cons_succ, List.getElem_cons_zero]); (go_simp <;> with_reducible rfl))
                  (try simp only [Act.put, List.setIfInBounds_toArray, List.set_cons_zero, List.set_cons_succ])
                  refine' take_yes 21 160 rfl rfl (by kernel_rfl) (by kernel_rfl) (by kernel_rfl) (by rfl) ?hF21 (by assumption) (fun _ _ _ h => h) ?rF21
                  case hF21 => (intro w hSw; (try dsimp only at hSw); (try simp only [List.getElem_toArray, List.getElem_cons_succ, List.getElem_cons_zero]); (go_simp <;> with_reducible rfl))
                  (try simp only [Act.put, List.setIfInBounds_toArray, List.set_cons_zero, List.set_cons_succ])
                  refine' take_yes 22 161 rfl rfl (by kernel_rfl) (by kernel_rfl) (by kernel_rfl) (by rfl) ?hF22 (by assumption) (fun _ _ _ h => h) ?rF22
                  case hF22 => (intro w hSw; (try dsimp only at hSw); (try simp only [List.getElem_toArray, List.getElem_cons_succ, List.getElem_cons_zero]); (go_simp <;> with_reducible rfl))
                  (try simp only [Act.put, List.setIfInBounds_toArray, List.set_cons_zero, List.set_cons_succ])
                  refine' take_yes 23 162 rfl rfl (by kernel_rfl) (by kernel_rfl) (by kernel_rfl) (by rfl) ?hF23 (by assumption) (fun _ _ _ h => h) ?rF23
                  case hF23 => (intro w hSw; (try dsimp only at hSw); (try simp only [List.getElem_toArray, List.getElem_cons_succ, List.getElem_cons_zero]); (go_simp <;> with_reducible rfl))
                  (try simp only [Act.put, List.setIfInBounds_toArray, List.set_cons_zero, List.set_cons_succ])
                  refine' take_yes 24 163 rfl rfl (by kernel_rfl) (by kernel_rfl) (by kernel_rfl) (by rfl) ?hF24 (by assumption) (fun _ _ _ h => h) ?rF24
                  case hF24 => (intro w hSw; (try dsimp only at hSw); (try simp only [List.getElem_toArray, List.getElem_cons_succ, List.getElem_cons_zero]); (go_simp <;> with_reducible rfl))
                  (try simp only [Act.put, List.setIfInBounds_toArray, List.set_cons_zero, List.set_cons_succ])
                  refine' take_yes 25 164 rfl rfl (by kernel_rfl) (by kernel_rfl) (by kernel_rfl) (by rfl) ?hF25 (by assumption) (fun _ _ _ h => h) ?rF25
                  case hF25 => (intro w hSw; (try dsimp only at hSw); (try simp only [List.getElem_toArray, List.getElem_cons_succ, List.getElem_cons_zero]); (go_simp <;> with_reducible rfl))
                  (try simp only [Act.put, List.setIfInBounds_toArray, List.set_cons_zero, List.set_cons_succ])
                  refine' take_yes 26 165 rfl rfl (by kernel_rfl) (by kernel_rfl) (by kernel_rfl) (by rfl) ?hF26 (by assumption) (fun _ _ _ h => h) ?rF26
                  case hF26 => (intro w hSw; (try dsimp only at hSw); (try simp only [List.getElem_toArray, List.getElem_cons_succ, List.getElem_cons_zero]); (go_simp <;> with_reducible rfl))
                  (try simp only [Act.put, List.setIfInBounds_toArray, List.set_cons_zero, List.set_cons_succ])
                  refine' take_yes 27 166 rfl rfl (by kernel_rfl) (by kernel_rfl) (by kernel_rfl) (by rfl) ?hF27 (by assumption) (fun _ _ _ h => h) ?rF27
                  case hF27 => (intro w hSw; (try dsimp only at hSw); (try simp only [List.getElem_toArray, List.getElem_cons_succ, List.getElem_cons_zero]); (go_simp <;> with_reducible rfl))
                  (try simp only [Act.put, List.setIfInBounds_toArray, List.set_cons_zero, List.set_cons_succ])
                  refine wpAnyH_done (by kernel_rfl) ?_ _
                  have HKW := Lib.hid hkw
                  clear hkw
                  go_wp2_with fail
                  go_roundw
                  case rel => exact ⟨i + 1, hix, by go_num, HRR.out.trans (HKW.out.mono sr3)⟩
                  case measure => simp [intOf]; omega
              · obtain rfl : i = is.length := by omega
                go_wp2_with fail
                go_roundw
                case rel => exact ⟨k + 1, hlt, by go_num, HBR9.out⟩
                case measure => simp [intOf]; omega
      · obtain rfl : k = bs.length := by omega
        go_wp2_with fail
        go_ret
        exact ⟨rfl, HB5.out.trans (HB.out.mono (by omega))⟩

end Go.Proofs.Ytbnebghpakllpaa
