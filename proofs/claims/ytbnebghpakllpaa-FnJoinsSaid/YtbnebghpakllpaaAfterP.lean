/- Post-dominators: the contracts of the program's functions. -/
import Derived.Test.YtbnebghpakllpaaVisit
import Derived.Test.YtbnebghpakllpaaDelete
import Derived.Test.YtbnebghpakllpaaAfterM
namespace Go.Proofs.Ytbnebghpakllpaa
open Go.RowKit Go

/-- Of the nodes so far, the one that all others are after; -1 where there is none. -/
def Early (p : List I4) (RA : List Int → Int → Nat → Bool) (xs : List Int) (x : Int) : Prop := (xs = [] ∧ x = -1) ∨ (x ∈ xs ∧ ∀ y ∈ xs, aftB p RA x y = true)

/-- Nodes that are all after one that reaches the exit. -/
def Behind (p : List I4) (R : List Int → Nat → Bool) (xs : List Int) : Prop := xs = [] ∨ ∃ a : Nat, exitQ p R a = true ∧ ∀ x ∈ xs, ∃ m : Nat, x = (m : Int) ∧ m ≤ p.length ∧ After p a m

theorem early_next {p : List I4} {R : List Int → Nat → Bool} (hR : AllReach p R) {RA : List Int → Int → Nat → Bool} (hRA : AllAvoid p RA) {xs : List Int} (hb : Behind p R xs) {j : Nat} (hj : j < xs.length) {x : Int} (h : Early p RA (xs.take j) x) :
    (x = -1 → Early p RA (xs.take (j + 1)) xs[j]) ∧ (x ≠ -1 → aftB p RA xs[j] x = true → Early p RA (xs.take (j + 1)) xs[j]) ∧ (x ≠ -1 → aftB p RA xs[j] x = false → Early p RA (xs.take (j + 1)) x) := by
  rcases hb with rfl | ⟨a, ha, hb⟩
  · simp at hj
  · obtain ⟨m, hm, hml, hma⟩ := hb xs[j] (List.getElem_mem hj)
    have hself : aftB p RA xs[j] xs[j] = true := by rw [hm, aftB_iff hRA]; exact After.self p m
    have hx0 : x ∈ xs.take j → ∃ n : Nat, x = (n : Int) ∧ n ≤ p.length ∧ After p a n := fun h => hb x (List.mem_of_mem_take h)
    have hre : Reach p [(a : Int)] p.length := (hR _ _).1 (Bool.and_eq_true_iff.1 ha).2
    rw [List.take_succ_eq_append_getElem hj]
    refine ⟨fun hx => .inr ⟨List.mem_append_right _ (List.mem_singleton.2 rfl), fun y hy => ?_⟩, fun hx hA => .inr ⟨List.mem_append_right _ (List.mem_singleton.2 rfl), fun y hy => ?_⟩, fun hx hA => .inr ?_⟩
    · rcases List.mem_append.1 hy with hy | hy
      · rcases h with ⟨h1, _⟩ | ⟨h1, _⟩
        · rw [h1] at hy; simp at hy
        · obtain ⟨n, hn, _⟩ := hx0 h1
          omega
      · rw [List.mem_singleton] at hy
        subst hy
        exact hself
    · rcases h with ⟨_, h1⟩ | ⟨h1, h2⟩
      · exact absurd h1 hx
      · obtain ⟨n, hn, hnl, hna⟩ := hx0 h1
        rcases List.mem_append.1 hy with hy | hy
        · have h3 := h2 y hy
          rw [hn] at hA h3
          rw [hm] at hA ⊢
          rw [aftB_iff hRA] at hA h3 ⊢
          exact hA.trans h3
        · rw [List.mem_singleton] at hy
          subst hy
          exact hself
    · rcases h with ⟨_, h1⟩ | ⟨h1, h2⟩
      · exact absurd h1 hx
      · obtain ⟨n, hn, hnl, hna⟩ := hx0 h1
        refine ⟨List.mem_append_left _ h1, fun y hy => ?_⟩
        rcases List.mem_append.1 hy with hy | hy
        · exact h2 y hy
        · rw [List.mem_singleton] at hy
          rw [hy]
          rw [hm, hn, ← Bool.not_eq_true, aftB_iff hRA] at hA
          rw [hm, hn, aftB_iff hRA]
          exact (After.total hre hna hma).resolve_right hA

theorem early_first {p : List I4} {R : List Int → Nat → Bool} (hR : AllReach p R) {RA : List Int → Int → Nat → Bool} (hRA : AllAvoid p RA) {xs : List Int} (hb : Behind p R xs) {x : Int} (h : Early p RA xs x) : x = firstL p RA xs := by
  rcases h with ⟨rfl, rfl⟩ | ⟨h1, h2⟩
  · rfl
  · unfold firstL
    cases hf : xs.find? (fun x => xs.all fun y => aftB p RA x y) with
    | none =>
      have := List.find?_eq_none.1 hf x h1
      rw [List.all_eq_true] at this
      exact absurd h2 this
    | some z =>
      have hz1 := List.mem_of_find?_eq_some hf
      have hz2 := List.find?_some hf
      rw [List.all_eq_true] at hz2
      show x = z
      rcases hb with rfl | ⟨a, ha, hb⟩
      · simp at h1
      · have hre : Reach p [(a : Int)] p.length := (hR _ _).1 (Bool.and_eq_true_iff.1 ha).2
        obtain ⟨m, hm, _, hma⟩ := hb x h1
        obtain ⟨n, hn, _, hna⟩ := hb z hz1
        have q1 := h2 z hz1
        have q2 := hz2 x h1
        rw [hm, hn, aftB_iff hRA] at q1 q2
        have := After.anti (hma.reaches hre).1 q1 q2
        omega

theorem exit_rng {p : List I4} {R : List Int → Nat → Bool} {k : Int} (h : exitQ p R k = true) : progOk p = true ∧ ∃ m : Nat, k = (m : Int) ∧ m ≤ p.length := by
  obtain ⟨h1, h2, h3⟩ := nodeOk_iff.1 (Bool.and_eq_true_iff.1 h).1
  obtain ⟨m, rfl⟩ := Int.eq_ofNat_of_zero_le h2
  exact ⟨h1, m, rfl, by omega⟩

theorem behind_afters {p : List I4} {R : List Int → Nat → Bool} {RA : List Int → Int → Nat → Bool} (hRA : AllAvoid p RA) {k : Int} {xs : List Int} (h : ∀ x ∈ xs, x ∈ aftersQ p R RA k) : Behind p R xs := by
  cases hx : exitQ p R k with
  | false =>
    refine .inl (List.eq_nil_iff_forall_not_mem.2 fun x hm => ?_)
    have := h x hm
    unfold aftersQ at this
    rw [if_neg (by rw [hx]; simp)] at this
    simp at this
  | true =>
    obtain ⟨_, m, rfl, _⟩ := exit_rng hx
    refine .inr ⟨m, hx, fun x hm => ?_⟩
    have := h x hm
    unfold aftersQ at this
    rw [if_pos hx] at this
    obtain ⟨i, hi, hf, rfl⟩ := nodesTo_mem.1 this
    exact ⟨i, rfl, by omega, (aftB_iff hRA).1 hf⟩

set_option maxRecDepth 100000 in
set_option maxHeartbeats 1000000 in
theorem pEarliest_any (B : Nat) (w : World) (a : Option Addr) (p : List I4) (R : List Int → Nat → Bool) (hR : AllReach p R) (RA : List Int → Int → Nat → Bool) (hRA : AllAvoid p RA) (cap : Nat) (h : Nums B w a (flat p)) (hB : B ≤ w.heap.size)
    (B2 : Nat) (a2 : Option Addr) (xs : List Int) (cap2 : Nat) (hv : xs ≠ [] → progOk p = true) (hl2 : xs.length ≤ 1000) (hx : ∀ x ∈ xs, 0 ≤ x ∧ x ≤ p.length) (h2 : Nums B2 w a2 xs) (hB2 : B2 ≤ w.heap.size) (hb : Behind p R xs) :
    Calls Try.prog 78 #[.slice a p.length cap, .slice a2 xs.length cap2] w (Said (.int .i64 (firstL p RA xs)) w) := by
  have HH := Lib.hid h
  have HH2 := Lib.hid h2
  have HX := Lib.hid hx
  have HV := Lib.hid hv
  have HE := Lib.hid (fun (x : Int) (h : Early p RA xs x) => early_first hR hRA hb h)
  have HN := Lib.hid (fun (j : Nat) (hj : j < xs.length) (x : Int) (h : Early p RA (xs.take j) x) => early_next hR hRA hb hj h)
  have HRA := Lib.hid hRA
  generalize firstL p RA xs = r at *
  clear h h2 hx hv hR hRA hb
  go_enter Try.func78, Try.ntmps78
  go_wp2_with fail
  go_loopw [5, 7, 10] (fun ev _ i wr => ∃ (j : Nat) (x : Int), j ≤ xs.length ∧ i = .int .i64 j ∧ ev = .int .i64 x ∧ Hid (Early p RA (xs.take j) x) ∧ Below w.heap.size w wr) (fun _ _ i _ => xs.length - (intOf i).toNat)
  case atStart => exact ⟨0, -1, Nat.zero_le _, rfl, rfl, Lib.hid (Or.inl ⟨rfl, rfl⟩), Below.refl _ _⟩
  case round =>
    obtain ⟨j, x, hj, rfl, rfl, HR, hb⟩ := hrel
    have HB := Lib.hid hb
    have hsz := hb.size
    clear hb
    by_cases hlt : j < xs.length
    · obtain ⟨g, off, rfl, hg, hc⟩ := (HH2.out.kept (HB.out.mono hB2)).2 j hlt
      obtain ⟨h1, h2, h3⟩ := HN.out j hlt x HR.out
      have hyr := HX.out xs[j] (List.getElem_mem hlt)
      have hp := HV.out (fun e => by rw [e] at hlt; simp at hlt)
      have h32 := progOk_len hp
      have HP := Lib.hid hp
      clear hp
      generalize xs[j] = y at *
      obtain ⟨y, rfl⟩ := Int.eq_ofNat_of_zero_le hyr.1
      by_cases hx1 : x = -1
      · have HY := Lib.hid (h1 hx1)
        subst hx1
        clear h1 h2 h3
        go_wp2_with fail
        go_roundw
        case rel => exact ⟨j + 1, y, hlt, by go_num, rfl, HY, HB.out⟩
        case measure => simp [intOf]; omega
      · have hx1e : (x == -1) = false := beq_eq_false_iff_ne.2 hx1
        have h4 := Lib.hid (pWay_any B wr _ p cap y x HP.out (by omega) (HH.out.kept (HB.out.mono hB)) (Nat.le_trans hB hsz) RA HRA.out)
        have H2 := Lib.hid (h2 hx1)
        have H3 := Lib.hid (h3 hx1)
        clear h1 h2 h3 hx1
        generalize aftB p RA (y : Int) x = t at *
        cases t with
        | true =>
          have HY := Lib.hid (H2.out rfl)
          go_wp2_with fail
          refine h4.out.mono ?_
          rintro e w1 ⟨rfl, b1⟩
          have HB1 := Lib.hid (HB.out.trans (b1.mono hsz))
          clear b1 hc
          go_wp2_with fail
          go_roundw
          case rel => exact ⟨j + 1, y, hlt, by go_num, rfl, HY, HB1.out⟩
          case measure => simp [intOf]; omega
        | false =>
          have HY := Lib.hid (H3.out rfl)
          go_wp2_with fail
          refine h4.out.mono ?_
          rintro e w1 ⟨rfl, b1⟩
          have HB1 := Lib.hid (HB.out.trans (b1.mono hsz))
          clear b1 hc
          go_wp2_with fail
          go_roundw
          case rel => exact ⟨j + 1, x, hlt, by go_num, rfl, HY, HB1.out⟩
          case measure => simp [intOf]; omega
    · obtain rfl : j = xs.length := by omega
      have HY := Lib.hid (HE.out x (by have h := HR.out; rwa [List.take_length] at h))
      go_wp2_with fail
      go_ret
      exact ⟨by rw [← HY.out]; rfl, HB.out⟩

set_option maxRecDepth 100000 in
set_option maxHeartbeats 400000 in
theorem pIsAfter_any (B : Nat) (w : World) (a : Option Addr) (p : List I4) (R : List Int → Nat → Bool) (hR : AllReach p R) (RA : List Int → Int → Nat → Bool) (hRA : AllAvoid p RA) (cap : Nat) (k c : Int) (hl : p.length ≤ 10000000) (h : Nums B w a (flat p)) (hB : B ≤ w.heap.size) :
    Calls Try.prog 26 #[.slice a p.length cap, .int .i64 k, .int .i64 c] w (Said (.bool (afterQ p R RA k c)) w) := by
  have h1 := pReachesExit_any B w a p R hR cap k hl h hB
  have e : afterQ p R RA k c = (exitQ p R k && aftB p RA k c) := by
    unfold afterQ exitQ
    cases hk : nodeOk p k with
    | false => rfl
    | true =>
      rw [Bool.true_and, Bool.true_and]
      cases hr : R [k] p.length with
      | false => simp
      | true =>
        simp only [Bool.true_and]
        obtain ⟨hp, h0, hn⟩ := nodeOk_iff.1 hk
        by_cases hc : 0 ≤ c ∧ c ≤ (p.length : Int)
        · rw [decide_eq_true hc, Bool.true_and]
        · rw [decide_eq_false hc, Bool.false_and]
          obtain ⟨m, rfl⟩ := Int.eq_ofNat_of_zero_le h0
          refine Eq.symm ?_
          rw [← Bool.not_eq_true, aftB_iff hRA]
          refine fun hA => hA ?_
          refine ((hR _ _).1 hr) (fun k => k ≤ p.length ∧ ReachA p [(m : Int)] c k) (fun j hj => ?_) (fun j hj i hi => ?_) |>.2
          · rw [List.mem_singleton] at hj
            exact ⟨by omega, ReachA.start (by simp [hj]) (by omega)⟩
          · have := nextL_rng hp j i hi
            exact ⟨by omega, hj.2.step hi (by omega)⟩
  rw [e]
  clear e
  have HH := Lib.hid h
  have HRA := Lib.hid hRA
  cases hx : exitQ p R k with
  | false =>
    rw [hx] at h1
    replace h1 := Lib.hid h1
    rw [Bool.false_and]
    clear h hRA hR hx
    go_enter Try.func26, Try.ntmps26
    go_wp2_with fail
    refine h1.out.mono ?_
    rintro e w1 ⟨rfl, b1⟩
    have B1 := Lib.hid b1
    clear b1
    go_wp2_with fail
    go_ret
    exact ⟨rfl, B1.out⟩
  | true =>
    obtain ⟨hp, m, rfl, hm⟩ := exit_rng hx
    rw [hx] at h1
    replace h1 := Lib.hid h1
    rw [Bool.true_and]
    have H2 := Lib.hid (fun W (hW : Below w.heap.size w W) => pWay_any B W a p cap m c hp hm (HH.out.kept (hW.mono hB)) (Nat.le_trans hB hW.size) RA HRA.out)
    generalize aftB p RA (m : Int) c = t at *
    clear h hRA hR hx hp
    go_enter Try.func26, Try.ntmps26
    go_wp2_with fail
    refine h1.out.mono ?_
    rintro e w1 ⟨rfl, b1⟩
    have B1 := Lib.hid b1
    clear b1
    go_wp2_with fail
    refine (H2.out _ B1.out).mono ?_
    rintro e w2 ⟨rfl, b2⟩
    have B2 := Lib.hid (B1.out.trans (b2.mono B1.out.size))
    clear b2
    go_wp2_with fail
    go_ret
    exact ⟨ret_bool (by simp), B2.out⟩

set_option maxRecDepth 100000 in
set_option maxHeartbeats 1000000 in
theorem pAfters_any (B : Nat) (w : World) (a : Option Addr) (p : List I4) (R : List Int → Nat → Bool) (hR : AllReach p R) (RA : List Int → Int → Nat → Bool) (hRA : AllAvoid p RA) (cap : Nat) (k : Int) (hl : p.length ≤ 10000000) (h : Nums B w a (flat p)) (hB : B ≤ w.heap.size) :
    Calls Try.prog 76 #[.slice a p.length cap, .int .i64 k] w (RowSaid (aftersQ p R RA k) w) := by
  obtain ⟨i0, hi0, hz0, hz1, hz2⟩ := info_parts info_int
  have h1 := pReachesExit_any B w a p R hR cap k hl h hB
  have e : aftersQ p R RA k = if exitQ p R k = true then nodesTo (fun c => aftB p RA k (c : Int)) (p.length + 1) else [] := rfl
  rw [e]
  clear e
  have HH := Lib.hid h
  have HRA := Lib.hid hRA
  cases hx : exitQ p R k with
  | false =>
    rw [hx] at h1
    replace h1 := Lib.hid h1
    rw [if_neg (by simp)]
    clear h hRA hR hx
    go_enter Try.func76, Try.ntmps76
    go_wp2_with fail
    refine h1.out.mono ?_
    rintro e w1 ⟨rfl, b1⟩
    have B1 := Lib.hid b1
    clear b1
    go_wp2_with fail
    go_ret
    exact ⟨_, rfl, Own.nil _ _, B1.out⟩
  | true =>
    obtain ⟨hp, m, rfl, hm⟩ := exit_rng hx
    have h32 := progOk_len hp
    rw [hx] at h1
    replace h1 := Lib.hid h1
    rw [if_pos rfl]
    have H2 := Lib.hid (fun W c (hW : Below w.heap.size w W) => pWay_any B W a p cap m c hp hm (HH.out.kept (hW.mono hB)) (Nat.le_trans hB hW.size) RA HRA.out)
    have e2 : ∀ j : Nat, aftB p RA (m : Int) (j : Int) = (fun c : Nat => aftB p RA (m : Int) (c : Int)) j := fun _ => rfl
    have HE := Lib.hid e2
    generalize (fun c : Nat => aftB p RA (m : Int) (c : Int)) = f at *
    clear h hRA hR hx hp e2
    go_enter Try.func76, Try.ntmps76
    go_wp2_with fail
    refine h1.out.mono ?_
    rintro e w1 ⟨rfl, b1⟩
    have B1 := Lib.hid (b1.alloc b1.size (.cells #[] 3))
    have HO1 := Lib.hid (Own.made w1 [] rfl (Nat.le_refl _) rfl (by unfold maxLen; simp))
    have hs1 := b1.size
    clear b1
    go_wp2_with fail
    go_loopw [5, 6, 15] (fun v _ i wr => ∃ j : Nat, j ≤ p.length + 1 ∧ i = .int .i64 j ∧ Own w.heap.size wr v (nodesTo f j) ∧ Below w.heap.size w wr) (fun _ _ i _ => p.length + 1 - (intOf i).toNat)
    case atStart => exact ⟨0, by omega, rfl, HO1.out.lower hs1, B1.out⟩
    case round =>
      obtain ⟨j, hj, rfl, hown, hb⟩ := hrel
      have hsz := hb.size
      have HO := Lib.hid hown
      have HB := Lib.hid hb
      by_cases hlt : j < p.length + 1
      · have h3 := H2.out wr j hb
        rw [HE.out] at h3
        cases hf : f j with
        | true =>
          rw [hf] at h3
          replace h3 := Lib.hid h3
          have HY := Lib.hid (nodesTo_yes hf)
          have hle := nodesTo_le f j
          generalize nodesTo f j = xs at *
          clear hf hown hb
          go_wp2_with fail
          refine h3.out.mono ?_
          rintro e w3 ⟨rfl, b3⟩
          have HO3 := Lib.hid (HO.out.below b3)
          have HB3 := Lib.hid (HB.out.trans (b3.mono hsz))
          have hs3 := HB3.out.size
          clear b3
          go_wp2_with (at_builtin; refine wpList_append_own _ rfl _ _ 26 rfl w.heap.size 3 i0 (.int .i64 0) 1 8 Try.underlying26 hi0 hz0 hz1 hz2 rfl (by decide) _ _ _ rfl (World.ownsRow.alloc HO3.out _) ⟨w3.heap.size, 0, none⟩ 1 1 [.int .i64 (j : Int)] rfl rfl (cell_one_new _ _ _) (by simp [Value.oneCell']) (by unfold maxLen; omega) (by omega) (by simp; omega) ?_; intro v' w4 hown4 hgrow _)
          have HN := Lib.hid (own_snoc HO3.out HB3.out hown4 hgrow)
          clear hown4 hgrow
          go_roundw
          case rel => exact ⟨j + 1, by omega, by go_num, by rw [HY.out]; exact HN.out.1, HN.out.2⟩
          case measure => simp [intOf]; omega
        | false =>
          rw [hf] at h3
          replace h3 := Lib.hid h3
          have HY := Lib.hid (nodesTo_no hf)
          clear hf hown hb
          go_wp2_with fail
          refine h3.out.mono ?_
          rintro e w3 ⟨rfl, b3⟩
          have HO3 := Lib.hid (HO.out.below b3)
          have HB3 := Lib.hid (HB.out.trans (b3.mono hsz))
          clear b3
          go_wp2_with fail
          go_roundw
          case rel => exact ⟨j + 1, by omega, by go_num, by rw [HY.out]; exact HO3.out, HB3.out⟩
          case measure => simp [intOf]; omega
      · obtain rfl : j = p.length + 1 := by omega
        clear hown hb
        go_wp2_with fail
        go_ret
        exact ⟨_, rfl, HO.out, HB.out⟩

end Go.Proofs.Ytbnebghpakllpaa
