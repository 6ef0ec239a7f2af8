/- FnReach: what is reached is closed under following, and a way to the exit continues from some successor. -/
import Derived.Test.YtbnebghpakllpaaFnBranches
import Derived.Test.YtbnebghpakllpaaDrawNums
namespace Go.Proofs.Ytbnebghpakllpaa
open Go.RowKit Go

theorem reach_step {p : List I4} {k b : Nat} : Reach p [(k : Int)] b ↔ k = b ∨ ∃ m : Nat, (m : Int) ∈ nextL p k ∧ Reach p [(m : Int)] b := by
  constructor
  · intro h
    refine h (fun b => k = b ∨ ∃ m : Nat, (m : Int) ∈ nextL p k ∧ Reach p [(m : Int)] b) (fun m hm => ?_) ?_
    · rw [List.mem_singleton] at hm
      exact .inl (by omega)
    · rintro j (rfl | ⟨m, hm, hr⟩) i hi
      · exact .inr ⟨i, hi, Reach.start (by simp)⟩
      · exact .inr ⟨m, hm, Reach.closed p _ j hr i hi⟩
  · rintro (rfl | ⟨m, hm, hr⟩)
    · exact Reach.start (by simp)
    · refine hr.of fun i hi => ?_
      rw [List.mem_singleton] at hi
      obtain rfl : i = m := by omega
      exact Reach.closed p _ k (Reach.start (by simp)) i hm

theorem exit_step {p : List I4} {R : List Int → Nat → Bool} (hR : AllReach p R) (hp : progOk p = true) {k : Nat} (hk : k ≤ p.length) : R [(k : Int)] p.length = ((nextL p k).length == 0 || (nextL p k).any fun m => R [m] p.length) := by
  rw [Bool.eq_iff_iff, hR _ _, reach_step, Bool.or_eq_true, List.any_eq_true]
  constructor
  · rintro (rfl | ⟨m, hm, hr⟩)
    · exact .inl (by rw [nextL_end]; rfl)
    · exact .inr ⟨_, hm, (hR _ _).2 hr⟩
  · rintro (h | ⟨m, hm, hr⟩)
    · rcases Nat.lt_or_ge k p.length with h1 | h1
      · have := nextL_pos h1
        have h2 := eq_of_beq h
        omega
      · exact .inl (by omega)
    · obtain ⟨m, rfl⟩ := Int.eq_ofNat_of_zero_le (nextL_rng hp k m hm).1
      exact .inr ⟨m, hm, (hR _ _).1 hr⟩

theorem exitQ_at {p : List I4} {R : List Int → Nat → Bool} {k : Int} (hp : progOk p = true) (h0 : 0 ≤ k) (hk : k ≤ p.length) : exitQ p R k = R [k] p.length := by
  unfold exitQ
  rw [nodeOk_iff.2 ⟨hp, h0, hk⟩, Bool.true_and]

theorem orT_take {f : Int → Bool} {xs : List Int} {k : Nat} (hk : k < xs.length) (b : Bool) : (b || (xs.take (k + 1)).any f) = ((b || (xs.take k).any f) || f xs[k]) := by
  rw [List.take_succ_eq_append_getElem hk, List.any_append]
  simp [Bool.or_assoc]

theorem place_mod {x n : Int} (h : 0 ≤ x) (hn : 0 < n) : ∃ a : Nat, x.tmod n = (a : Int) ∧ (a : Int) < n := by
  rw [Int.tmod_eq_emod_of_nonneg h]
  have h1 := Int.emod_nonneg x (show n ≠ 0 by omega)
  have h2 := Int.emod_lt_of_pos x hn
  exact ⟨(x % n).toNat, by omega, by omega⟩

theorem reach_in {p : List I4} {R : List Int → Nat → Bool} {us rs : List Int} {y : Nat} {m : Int} (hR : AllReach p R) (hp : progOk p = true) (hin : ∀ k : Nat, k < p.length + 1 → inL rs (k : Int) = R us k) (hy : R us y = true) (hm : m ∈ nextL p y) : inL rs m = true := by
  have hr := nextL_rng hp y m hm
  obtain ⟨m, rfl⟩ := Int.eq_ofNat_of_zero_le hr.1
  rw [hin m (by omega), hR us m]
  exact Reach.closed p us y ((hR us y).1 hy) m hm

theorem bytes_below {w w' : World} {a : Option Addr} {len : Nat} (h : Bytes w.heap.size w a len) (hb : Below w.heap.size w w') : Bytes w'.heap.size w' a len := fun j hj => by
  obtain ⟨b, off, x, e, hlt, hc, h0, h1⟩ := h j hj
  exact ⟨b, off, x, e, Nat.lt_of_lt_of_le hlt hb.size, by rw [hb.cell (p := ⟨b, off + j, none⟩) hlt]; exact hc, h0, h1⟩

set_option maxRecDepth 100000 in
set_option maxHeartbeats 4000000 in
theorem fnReach_walk (a : Option Addr) (len cap : Nat) (zs : List Int) (w : World) (hr : IsRow .u8 w a len cap zs) :
    Calls Try.prog 3 #[.slice a len cap] w fun e w' => e = .returned (.bool true) ∧ Below w.heap.size w w' := by
  have hl := hr.bytes.2
  have HBy := Lib.hid hr.bytes.1
  have HL := Lib.hid hl
  clear hr
  by_cases hbig : 1048576 < len
  · have HD := Lib.hid (show decide (1048576 < (len : Int)) = true by simp; omega)
    clear hl hbig
    go_enter Try.func3, Try.ntmps3
    go_wp2_with fail
    refine (big_any _ _ _ _).mono ?_
    rw [HD.out]
    rintro e w' ⟨rfl, rfl⟩
    go_wp2_with fail
    go_ret
    exact ⟨rfl, Below.refl _ _⟩
  · have HD := Lib.hid (show decide (1048576 < (len : Int)) = false by simp; omega)
    clear hl hbig
    go_enter Try.func3, Try.ntmps3
    go_wp2_with fail
    refine (big_any _ _ _ _).mono ?_
    rw [HD.out]
    rintro e w' ⟨rfl, rfl⟩
    go_wp2_with fail
    refine (drawWild_any _ _ _ _ HL.out HBy.out).mono ?_
    rintro e w1 ⟨a1, c1, p, rfl, hp, hp8, o1, b1⟩
    have s1 := b1.size
    have HN1 := Lib.hid (o1.nums (progOk_rng hp) (Nat.le_refl _))
    have HB1 := Lib.hid b1
    have HP := Lib.hid hp
    have HBy1 := Lib.hid (bytes_below HBy.out b1)
    obtain ⟨R, hR⟩ := exists_all p
    have HR := Lib.hid hR
    clear o1 b1 hR hp
    go_wp2_with fail
    refine (places_any _ _ _ _ HL.out HBy1.out).mono ?_
    rintro e w2 ⟨v2, xs, hxl, hxp, rfl, o2, b2⟩
    have s2 := b2.size
    have HN2 := Lib.hid (HN1.out.kept b2)
    have HB2 := Lib.hid (HB1.out.trans (b2.mono s1))
    have h0 : 0 < xs.length := by omega
    obtain ⟨a2, c2, rfl⟩ := o2.form
    obtain ⟨g2, rfl, _, _, hc2⟩ := o2.cell 0 h0
    have hx0 := hxp _ (List.getElem_mem h0)
    generalize xs[0] = x0 at *
    obtain ⟨ad, hmod, had⟩ := place_mod hx0.1 (show (0 : Int) < (p.length : Int) + 1 by omega)
    obtain ⟨hx0a, hx0b⟩ := hx0
    have hne : ((p.length : Int) + 1 == 0) = false := by simp; omega
    clear o2 b2 hxp
    go_wp2_with fail
    refine (pReachable_any w1.heap.size w2 a1 p R HR.out c1 ad (by omega) HN2.out s2).mono ?_
    rintro e w3 ⟨v3, rfl, o3, b3⟩
    have s3 := b3.size
    have e3 : reachQ p R (ad : Int) = nodesTo (R [(ad : Int)]) (p.length + 1) := by unfold reachQ; rw [if_pos (nodeOk_iff.2 ⟨HP.out, by omega, by omega⟩)]
    rw [e3] at o3
    have hrl := nodesTo_le (R [(ad : Int)]) (p.length + 1)
    have HMEM := Lib.hid (fun (x : Int) => nodesTo_mem (f := R [(ad : Int)]) (k := p.length + 1) (x := x))
    have HIN := Lib.hid (fun (k : Nat) (hk : k < p.length + 1) => inL_nodes (f := R [(ad : Int)]) hk)
    have HRG := Lib.hid (nodesTo_rng (R [(ad : Int)]) (p.length + 1) (by omega))
    generalize nodesTo (R [(ad : Int)]) (p.length + 1) = rs at *
    obtain ⟨a3, c3, rfl⟩ := o3.form
    have HN3 := Lib.hid (HN2.out.kept (b3.mono s2))
    have HO3 := Lib.hid (o3.nums HRG.out (Nat.le_refl _))
    have HB3 := Lib.hid (HB2.out.trans (b3.mono (by omega)))
    clear e3 o3 b3
    go_wp2_with fail
    go_loopw [7] (fun i wr => ∃ k : Nat, k ≤ rs.length ∧ i = .int .i64 k ∧ Below w3.heap.size w3 wr) (fun i _ => rs.length - (intOf i).toNat)
    case atStart => exact ⟨0, Nat.zero_le _, rfl, Below.refl _ _⟩
    case round =>
      obtain ⟨k, hk, rfl, hb⟩ := hrel
      have sr := hb.size
      have HB := Lib.hid hb
      clear hb
      by_cases hlt : k < rs.length
      · have hyk := HMEM.out rs[k]
        obtain ⟨y, hy1, hy2, hy3⟩ := hyk.1 (List.getElem_mem hlt)
        obtain ⟨gc, off, ha3, _, hc⟩ := (HO3.out.kept HB.out).2 k hlt
        rw [hy3] at hc
        have HYE := Lib.hid hy3
        have HY2 := Lib.hid hy2
        clear hyk hy2 hy3
        subst ha3
        have h1 := pNextOf_any w1.heap.size wr a1 p c1 y (by omega) (HN3.out.kept (HB.out.mono (by omega))) (by omega)
        have e1 : nextQ p (y : Int) = nextL p y := by unfold nextQ; rw [if_pos (nodeOk_iff.2 ⟨HP.out, by omega, by omega⟩), Int.toNat_natCast]
        rw [e1] at h1
        have hle := nextL_le p y
        have HEX := Lib.hid (exit_step HR.out HP.out (k := y) (by omega))
        have HCL := Lib.hid (fun (m : Int) (hm : m ∈ nextL p y) => reach_in HR.out HP.out HIN.out HY2.out hm)
        have HYR := Lib.hid (nextL_rng HP.out y)
        generalize nextL p y = ys at *
        have hz : ((ys.length : Int) == 0) = (ys.length == 0) := by rw [Bool.eq_iff_iff]; simp
        generalize (ys.length == 0) = z at *
        replace h1 := Lib.hid h1
        clear e1
        go_wp2_with fail
        refine h1.out.mono ?_
        rintro e w4 ⟨v4, rfl, o4, b4⟩
        obtain ⟨a4, c4, rfl⟩ := o4.form
        have s4 := b4.size
        have HB4 := Lib.hid (HB.out.trans (b4.mono sr))
        have HO4 := Lib.hid (o4.nums (rng_i64 (by omega) HYR.out) (Nat.le_refl _))
        clear o4 b4
        go_wp2_with fail
        go_loopw [9, 10] (fun av iv wr => ∃ i : Nat, i ≤ ys.length ∧ iv = .int .i64 i ∧ av = .bool (z || (ys.take i).any fun m => R [m] p.length) ∧ Below w4.heap.size w4 wr) (fun _ iv _ => ys.length - (intOf iv).toNat)
        case atStart => exact ⟨0, Nat.zero_le _, rfl, by simp, Below.refl _ _⟩
        case round =>
          obtain ⟨i, hi, rfl, rfl, hb⟩ := hrel
          have sr5 := hb.size
          have HB5 := Lib.hid (HB4.out.trans (hb.mono (by omega)))
          have HB5a := Lib.hid hb
          clear hb
          by_cases hit : i < ys.length
          · obtain ⟨g4, o4, ha4, _, hc4⟩ := (HO4.out.kept HB5a.out).2 i hit
            subst ha4
            have hmr := HYR.out _ (List.getElem_mem hit)
            have hcl := HCL.out _ (List.getElem_mem hit)
            have HOR := Lib.hid (orT_take (f := fun m => R [m] p.length) hit z)
            generalize ys[i] = m at *
            have h5 := has_any w3.heap.size wr (some ⟨gc, off, none⟩) rs c3 m (by omega) (HO3.out.kept HB5.out)
            rw [hcl] at h5
            replace h5 := Lib.hid h5
            have h6 := pReachesExit_any w1.heap.size wr a1 p R HR.out c1 m (by omega) (HN3.out.kept (HB5.out.mono (by omega))) (by omega)
            rw [exitQ_at HP.out hmr.1 hmr.2] at h6
            replace h6 := Lib.hid h6
            clear hcl
            generalize (z || (ys.take i).any fun m => R [m] p.length) = b at *
            generalize R [m] p.length = t at *
            cases b with
            | true =>
              go_wp2_with fail
              refine h5.out.mono ?_
              rintro e w' ⟨rfl, rfl⟩
              go_wp2_with fail
              go_roundw
              case rel => exact ⟨i + 1, hit, by go_num, by rw [HOR.out]; rfl, HB5a.out⟩
              case measure => simp [intOf]; omega
            | false =>
              go_wp2_with fail
              refine h5.out.mono ?_
              rintro e w' ⟨rfl, rfl⟩
              go_wp2_with fail
              refine h6.out.mono ?_
              rintro e w6 ⟨rfl, b6⟩
              have HB6 := Lib.hid (HB5a.out.trans (b6.mono sr5))
              clear b6
              go_wp2_with fail
              go_roundw
              case rel => exact ⟨i + 1, hit, by go_num, by rw [HOR.out]; rfl, HB6.out⟩
              case measure => simp [intOf]; omega
          · obtain rfl : i = ys.length := by omega
            have h6 := pReachesExit_any w1.heap.size wr a1 p R HR.out c1 y (by omega) (HN3.out.kept (HB5.out.mono (by omega))) (by omega)
            have hex := HEX.out
            rw [exitQ_at HP.out (by omega) (by omega), hex] at h6
            replace h6 := Lib.hid h6
            have hc5 : wr.cell? ⟨gc, off + k, none⟩ = some (.int .i64 (y : Int)) := by
              obtain ⟨g', o', e', _, hc'⟩ := (HO3.out.kept HB5.out).2 k hlt
              cases e'
              rw [hc']
              have e2 := HYE.out
              rw [e2]
            clear hex hc
            rw [List.take_length]
            generalize (z || ys.any fun m => R [m] p.length) = b at *
            cases b with
            | true =>
              go_wp2_with fail
              refine h6.out.mono ?_
              rintro e w6 ⟨rfl, b6⟩
              have HB6 := Lib.hid (HB5.out.trans (b6.mono (by omega)))
              clear b6
              go_wp2_with fail
              go_roundw
              case rel => exact ⟨k + 1, hlt, by go_num, HB6.out⟩
              case measure => simp [intOf]; omega
            | false =>
              go_wp2_with fail
              refine h6.out.mono ?_
              rintro e w6 ⟨rfl, b6⟩
              have HB6 := Lib.hid (HB5.out.trans (b6.mono (by omega)))
              clear b6
              go_wp2_with fail
              go_roundw
              case rel => exact ⟨k + 1, hlt, by go_num, HB6.out⟩
              case measure => simp [intOf]; omega
      · obtain rfl : k = rs.length := by omega
        have h5 := has_any w3.heap.size wr a3 rs c3 ad (by omega) (HO3.out.kept HB.out)
        have had1 : inL rs (ad : Int) = true := by rw [HIN.out ad (by omega), HR.out]; exact Reach.start (by simp)
        rw [had1] at h5
        replace h5 := Lib.hid h5
        have h6 := pReachesExit_any w1.heap.size wr a1 p R HR.out c1 ad (by omega) (HN3.out.kept (HB.out.mono (by omega))) (by omega)
        rw [exitQ_at HP.out (by omega) (by omega)] at h6
        replace h6 := Lib.hid h6
        have HIN2 := Lib.hid (HIN.out p.length (by omega))
        have e7 : nextQ p (p.length : Int) = [] := by unfold nextQ; rw [if_pos (nodeOk_iff.2 ⟨HP.out, by omega, by omega⟩), Int.toNat_natCast, nextL_end]
        have E7 := Lib.hid e7
        clear had1 e7
        generalize R [(ad : Int)] p.length = t at *
        go_wp2_with fail
        refine h5.out.mono ?_
        rintro e w' ⟨rfl, rfl⟩
        go_wp2_with fail
        refine h6.out.mono ?_
        rintro e w6 ⟨rfl, b6⟩
        have HB6 := Lib.hid (HB.out.trans (b6.mono sr))
        have s6 := b6.size
        clear b6
        go_wp2_with fail
        refine (has_any w3.heap.size w6 a3 rs c3 p.length (by omega) (HO3.out.kept HB6.out)).mono ?_
        rw [HIN2.out]
        rintro e w' ⟨rfl, rfl⟩
        have h8 := pNextOf_any w1.heap.size w6 a1 p c1 p.length (by omega) (HN3.out.kept (HB6.out.mono (by omega))) (by omega)
        rw [E7.out] at h8
        replace h8 := Lib.hid h8
        cases t with
        | true =>
          go_wp2_with fail
          refine h8.out.mono ?_
          rintro e w8 ⟨v8, rfl, o8, b8⟩
          obtain ⟨a8, c8, rfl⟩ := o8.form
          have HB8 := Lib.hid (HB3.out.trans ((HB6.out.trans (b8.mono (by omega))).mono (by omega)))
          clear o8 b8
          go_wp2_with fail
          go_ret
          exact ⟨rfl, HB8.out⟩
        | false =>
          go_wp2_with fail
          refine h8.out.mono ?_
          rintro e w8 ⟨v8, rfl, o8, b8⟩
          obtain ⟨a8, c8, rfl⟩ := o8.form
          have HB8 := Lib.hid (HB3.out.trans ((HB6.out.trans (b8.mono (by omega))).mono (by omega)))
          clear o8 b8
          go_wp2_with fail
          go_ret
          exact ⟨rfl, HB8.out⟩

end Go.Proofs.Ytbnebghpakllpaa
