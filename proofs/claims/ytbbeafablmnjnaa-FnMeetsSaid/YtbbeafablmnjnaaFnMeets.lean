/- FnMeets: the first node after both successors of a branch is behind both, if both reach the exit. -/
import Derived.Test.YtbbeafablmnjnaaFnAfters
import Derived.Test.YtbbeafablmnjnaaJoinS
namespace Go.Proofs.Ytbbeafablmnjnaa
open Go.RowKit Go

def MeetsSays (p : List I4) (R : List Int → Nat → Bool) (RA : List Int → Int → Nat → Bool) : Prop :=
  ∀ (B : Nat) (w : World) (a : Option Addr) (cap : Nat) (k m : Int), p.length ≤ 10000000 → Nums B w a (flat p) → B ≤ w.heap.size → Calls Try.prog 20 #[.slice a p.length cap, .int .i64 k, .int .i64 m] w (Said (.int .i64 (meetsQ p R RA k m)) w)

set_option maxRecDepth 100000 in
set_option maxHeartbeats 4000000 in
theorem fnMeets_walk (hC : ∀ p R RA, AllReach p R → AllAvoid p RA → AfterSays p R RA) (hM : ∀ p R RA, AllReach p R → AllAvoid p RA → MeetsSays p R RA) (a : Option Addr) (len cap : Nat) (zs : List Int) (w : World) (hr : IsRow .u8 w a len cap zs) :
    Calls Try.prog 4 #[.slice a len cap] w fun e w' => e = .returned (.bool true) ∧ Below w.heap.size w w' := by
  have hl := hr.bytes.2
  have HBy := Lib.hid hr.bytes.1
  have HL := Lib.hid hl
  have HCC := Lib.hid hC
  have HMM := Lib.hid hM
  clear hr hC hM
  by_cases hbig : 1048576 < len
  · have HD := Lib.hid (show decide (1048576 < (len : Int)) = true by simp; omega)
    clear hl hbig
    go_enter Try.func4, Try.ntmps4
    go_wp2_with fail
    refine (big_any _ _ _ _).mono ?_
    rw [HD.out]
    rintro e w' ⟨rfl, rfl⟩
    go_wp2_with fail
    go_ret
    exact ⟨rfl, Below.refl _ _⟩
  · have HD := Lib.hid (show decide (1048576 < (len : Int)) = false by simp; omega)
    clear hl hbig
    go_enter Try.func4, Try.ntmps4
    go_wp2_with fail
    refine (big_any _ _ _ _).mono ?_
    rw [HD.out]
    rintro e w' ⟨rfl, rfl⟩
    go_wp2_with fail
    refine (drawWild_any _ _ _ _ HL.out HBy.out).mono ?_
    rintro e w1 ⟨a1, c1, p, rfl, hp, hp8, o1, b1⟩
    have s1 := b1.size
    have HN1 := Lib.hid (o1.nums (progOk_rng hp) (Nat.le_refl _))
    have HB1 := Lib.hid b1
    have HP := Lib.hid hp
    obtain ⟨R, hR⟩ := exists_all p
    obtain ⟨RA, hRA⟩ := exists_avoid p
    have HC := Lib.hid (HCC.out p R RA hR hRA)
    have HM := Lib.hid (HMM.out p R RA hR hRA)
    have HR := Lib.hid hR
    have HRA := Lib.hid hRA
    clear o1 b1 hR hRA hp
    go_wp2_with fail
    refine (pBranches_any _ _ a1 p c1 (by omega) HN1.out (Nat.le_refl _)).mono ?_
    rintro e w2 ⟨v2, rfl, o2, b2⟩
    have s2 := b2.size
    obtain ⟨hbx, hbl⟩ := brQ_small (p := p)
    have HBX := Lib.hid hbx
    have HBR := Lib.hid (fun (x : Int) (hx : x ∈ brQ p) => (br_mem (p := p) (b := x)).1 (by unfold inL; rw [List.contains_iff_mem]; exact hx))
    have HSB := Lib.hid (fun B w a cap hl h hB => sBranches_any B w a p cap hl h hB)
    generalize brQ p = bs at *
    obtain ⟨a2, c2, rfl⟩ := o2.form
    have HO2 := Lib.hid (o2.readA (rng_small (by omega) HBX.out))
    have HN2 := Lib.hid (HN1.out.kept b2)
    have HB2 := Lib.hid (HB1.out.trans (b2.mono s1))
    clear o2 b2 hbx
    go_wp2_with fail
    refine (HSB.out w1.heap.size w2 a1 c1 (by omega) HN2.out s2).mono ?_
    rintro e w3 ⟨v3, rfl, o3, b3⟩
    have s3 := b3.size
    obtain ⟨a3, c3, rfl⟩ := o3.form
    have HN3 := Lib.hid (HN2.out.kept (b3.mono s2))
    have HO3 := Lib.hid (HO2.out.kept b3)
    have HB3 := Lib.hid (HB2.out.trans (b3.mono (by omega)))
    clear o3 b3
    go_wp2_with fail
    go_loopw [5] (fun i wr => ∃ k : Nat, k ≤ bs.length ∧ i = .int .i64 k ∧ Below w3.heap.size w3 wr) (fun i _ => bs.length - (intOf i).toNat)
    case atStart => exact ⟨0, Nat.zero_le _, rfl, Below.refl _ _⟩
    case round =>
      obtain ⟨k, hk, rfl, hb⟩ := hrel
      have sr := hb.size
      have HB := Lib.hid hb
      clear hb
      by_cases hlt : k < bs.length
      · obtain ⟨g, off, ha2, hg, hc⟩ := (HO3.out.kept (HB.out.mono (by omega))).2 k hlt
        obtain ⟨hp, b, eb, hbn, hbr⟩ := HBR.out _ (List.getElem_mem hlt)
        obtain ⟨x0, x1, hnx, _⟩ := branch_two hbr
        have HNX := Lib.hid hnx
        rw [eb] at hc
        subst ha2
        have hgl : g < wr.heap.size := by omega
        have h1 := pNextOf_any w1.heap.size wr a1 p c1 b (by omega) (HN3.out.kept (HB.out.mono (by omega))) (by omega)
        have e1 : nextQ p (b : Int) = [x0, x1] := by unfold nextQ; rw [if_pos (nodeOk_iff.2 ⟨HP.out, by omega, by omega⟩), Int.toNat_natCast, hnx]
        rw [e1] at h1
        have hr0 := nextL_rng hp b x0 (by rw [hnx]; simp)
        have hr1 := nextL_rng hp b x1 (by rw [hnx]; simp)
        obtain ⟨x0, rfl⟩ := Int.eq_ofNat_of_zero_le hr0.1
        obtain ⟨x1, rfl⟩ := Int.eq_ofNat_of_zero_le hr1.1
        replace h1 := Lib.hid h1
        clear e1 hnx hbr eb hp
        go_wp2_with fail
        refine h1.out.mono ?_
        rintro e w4 ⟨v4, rfl, o4, b4⟩
        have s4 := b4.size
        obtain ⟨a4, c4, rfl⟩ := o4.form
        obtain ⟨g4, rfl, hg4, hg4b, d0⟩ := o4.cell 0 (by simp)
        obtain ⟨g4', e4, _, _, d1⟩ := o4.cell 1 (by simp)
        cases e4
        simp only [List.getElem_cons_zero, List.getElem_cons_succ] at d0 d1
        have hc4 : w4.cell? ⟨g, off + k, none⟩ = some (.int .i64 (b : Int)) := by rw [b4.cell (p := ⟨g, off + k, none⟩) hgl]; exact hc
        have HB4 := Lib.hid (HB.out.trans (b4.mono sr))
        clear o4 b4 hc
        have hcall : ∀ W, Kept w4 W → Calls Try.prog 20 #[.slice a1 p.length c1, .int .i64 (x0 : Int), .int .i64 (x1 : Int)] W (fun e w' => e = .returned (.int .i64 (meetsQ p R RA x0 x1)) ∧ Below W.heap.size W w') := fun W hW =>
          HM.out w1.heap.size W a1 c1 x0 x1 (by omega) (HN3.out.kept ((HB4.out.trans (hW.mono (by omega))).mono (by omega))) (by have := hW.size; omega)
        have HCM := Lib.hid hcall
        have hk0 : Kept w4 w4 := Below.refl _ _
        clear hcall
        go_wp2_with fail
        go_region_held3 (fun w' => w'.cell? ⟨g4, 0, none⟩ = some (.int .i64 (x0 : Int)) ∧ w'.cell? ⟨g4, 1, none⟩ = some (.int .i64 (x1 : Int))) (first | go_keep | ((repeat' apply And.intro) <;> (rw [hb1.cell (by simp; omega)]; simp [*]))) ((first | (go_at_call 20; refine (HCM.out _ (by first | exact Kept.drew hk0 | exact below_drewN _ _ _)).mono ?_; rintro e w5 ⟨rfl, hb1⟩)))
        have b5 : Below w4.heap.size w4 w5 := ⟨hb1.os, hb1.tape, hb1.output, hb1.size, hb1.block⟩
        have s5 := b5.size
        have f0 : w5.cell? ⟨g4, 0, none⟩ = some (.int .i64 (x0 : Int)) := by rw [b5.cell (p := ⟨g4, 0, none⟩) hg4b]; exact d0
        have f1 : w5.cell? ⟨g4, 1, none⟩ = some (.int .i64 (x1 : Int)) := by rw [b5.cell (p := ⟨g4, 1, none⟩) hg4b]; exact d1
        have hc5 : w5.cell? ⟨g, off + k, none⟩ = some (.int .i64 (b : Int)) := by rw [b5.cell (p := ⟨g, off + k, none⟩) (by show g < w4.heap.size; omega)]; exact hc4
        have HB5 := Lib.hid (HB4.out.trans (b5.mono (by omega)))
        have hcall2 : ∀ W, Kept w5 W → Calls Try.prog 20 #[.slice a1 p.length c1, .int .i64 (x1 : Int), .int .i64 (x0 : Int)] W (fun e w' => e = .returned (.int .i64 (meetsQ p R RA x0 x1)) ∧ Below W.heap.size W w') := fun W hW => by
          rw [meets_comm]
          exact HM.out w1.heap.size W a1 c1 x1 x0 (by omega) (HN3.out.kept ((HB5.out.trans (hW.mono (by omega))).mono (by omega))) (by have := hW.size; omega)
        have HCM2 := Lib.hid hcall2
        have hk5 : Kept w5 w5 := Below.refl _ _
        have HMN := Lib.hid (fun (h : exitQ p R x0 = false ∨ exitQ p R x1 = false) => meets_none (p := p) (R := R) (RA := RA) h)
        have HMS := Lib.hid (fun (h0 : exitQ p R x0 = true) (h1 : exitQ p R x1 = true) => meets_some HR.out HRA.out h0 h1)
        generalize meetsQ p R RA (x0 : Int) (x1 : Int) = mv at *
        have hg4c : g4 < w5.heap.size := by omega
        clear hcall2 hb1 b5 d0 d1 hc4
        go_wp2_with fail
        go_region_held3 (fun w' => w'.cell? ⟨g4, 0, none⟩ = some (.int .i64 (x0 : Int)) ∧ w'.cell? ⟨g4, 1, none⟩ = some (.int .i64 (x1 : Int))) (first | go_keep | ((repeat' apply And.intro) <;> (rw [hb2.cell (by simp; omega)]; simp [*]))) ((first | (go_at_call 20; refine (HCM2.out _ (by first | exact Kept.drew hk5 | exact below_drewN _ _ _)).mono ?_; rintro e w6 ⟨rfl, hb2⟩)))
        have b6 : Below w5.heap.size w5 w6 := ⟨hb2.os, hb2.tape, hb2.output, hb2.size, hb2.block⟩
        have s6 := b6.size
        have d0 : w6.cell? ⟨g4, 0, none⟩ = some (.int .i64 (x0 : Int)) := by rw [b6.cell (p := ⟨g4, 0, none⟩) hg4c]; exact f0
        have d1 : w6.cell? ⟨g4, 1, none⟩ = some (.int .i64 (x1 : Int)) := by rw [b6.cell (p := ⟨g4, 1, none⟩) hg4c]; exact f1
        have hc6 : w6.cell? ⟨g, off + k, none⟩ = some (.int .i64 (b : Int)) := by rw [b6.cell (p := ⟨g, off + k, none⟩) (by show g < w5.heap.size; omega)]; exact hc5
        have HB6 := Lib.hid (HB5.out.trans (b6.mono (by omega)))
        have h6 := pReachesExit_any w1.heap.size w6 a1 p R HR.out c1 x0 (by omega) (HN3.out.kept (HB6.out.mono (by omega))) (by omega)
        have hg4d : g4 < w6.heap.size := by omega
        clear hb2 b6 f0 f1 hc5
        cases e0 : exitQ p R x0 with
        | false =>
          rw [e0] at h6
          replace h6 := Lib.hid h6
          have hmv : mv = -1 := HMN.out (.inl e0)
          subst hmv
          clear e0
          go_wp2_with fail
          refine h6.out.mono ?_
          rintro e w7 ⟨rfl, b7⟩
          have HB7 := Lib.hid (HB6.out.trans (b7.mono (by omega)))
          clear b7
          go_wp2_with fail
          go_roundw
          case rel => exact ⟨k + 1, hlt, by go_num, HB7.out⟩
          case measure => simp [intOf]; omega
        | true =>
          rw [e0] at h6
          replace h6 := Lib.hid h6
          go_wp2_with fail
          refine h6.out.mono ?_
          rintro e w7 ⟨rfl, b7⟩
          have s7 := b7.size
          have f1 : w7.cell? ⟨g4, 1, none⟩ = some (.int .i64 (x1 : Int)) := by rw [b7.cell (p := ⟨g4, 1, none⟩) hg4d]; exact d1
          have f0 : w7.cell? ⟨g4, 0, none⟩ = some (.int .i64 (x0 : Int)) := by rw [b7.cell (p := ⟨g4, 0, none⟩) hg4d]; exact d0
          have hc7 : w7.cell? ⟨g, off + k, none⟩ = some (.int .i64 (b : Int)) := by rw [b7.cell (p := ⟨g, off + k, none⟩) (by show g < w6.heap.size; omega)]; exact hc6
          have HB7 := Lib.hid (HB6.out.trans (b7.mono (by omega)))
          have h7 := pReachesExit_any w1.heap.size w7 a1 p R HR.out c1 x1 (by omega) (HN3.out.kept (HB7.out.mono (by omega))) (by omega)
          have hg4e : g4 < w7.heap.size := by omega
          clear b7 d0 d1 hc6
          cases e1 : exitQ p R x1 with
          | false =>
            rw [e1] at h7
            replace h7 := Lib.hid h7
            have hmv : mv = -1 := HMN.out (.inr e1)
            subst hmv
            clear e0 e1
            go_wp2_with fail
            refine h7.out.mono ?_
            rintro e w8 ⟨rfl, b8⟩
            have HB8 := Lib.hid (HB7.out.trans (b8.mono (by omega)))
            clear b8
            go_wp2_with fail
            go_roundw
            case rel => exact ⟨k + 1, hlt, by go_num, HB8.out⟩
            case measure => simp [intOf]; omega
          | true =>
            rw [e1] at h7
            replace h7 := Lib.hid h7
            obtain ⟨m, hmv, hml, hm0, hm1, _⟩ := HMS.out e0 e1
            subst hmv
            have q0 := after_iff HRA.out e0 hml hm0
            have q1 := after_iff HRA.out e1 hml hm1
            have hxb : exitQ p R b = true := exit_of HR.out HP.out (by omega) ((exit_reach HR.out e0).2.2.of fun y hy => by
              rw [List.mem_singleton] at hy
              obtain rfl : y = x0 := by omega
              exact Reach.closed p _ b (Reach.start (by simp)) y (by rw [HNX.out]; simp))
            obtain ⟨f, hf, hfb, hfl, haf, _⟩ := first_some HR.out HRA.out hxb (by omega)
            have q2 := after_iff HRA.out hxb hfl haf
            clear e0 e1 hm0 hm1 hml hxb hfb haf
            go_wp2_with fail
            refine h7.out.mono ?_
            rintro e w8 ⟨rfl, b8⟩
            have s8 := b8.size
            have d0 : w8.cell? ⟨g4, 0, none⟩ = some (.int .i64 (x0 : Int)) := by rw [b8.cell (p := ⟨g4, 0, none⟩) hg4e]; exact f0
            have d1 : w8.cell? ⟨g4, 1, none⟩ = some (.int .i64 (x1 : Int)) := by rw [b8.cell (p := ⟨g4, 1, none⟩) hg4e]; exact f1
            have hc8 : w8.cell? ⟨g, off + k, none⟩ = some (.int .i64 (b : Int)) := by rw [b8.cell (p := ⟨g, off + k, none⟩) (by show g < w7.heap.size; omega)]; exact hc7
            have HB8 := Lib.hid (HB7.out.trans (b8.mono (by omega)))
            have HIS := Lib.hid (fun (c d : Int) (h : afterQ p R RA c d = true) W (hW : Kept w8 W) => (show Calls Try.prog 16 #[.slice a1 p.length c1, .int .i64 c, .int .i64 d] W (fun e w' => e = .returned (.bool true) ∧ Below W.heap.size W w') from by
              have h9 := HC.out.is w1.heap.size W a1 c1 c d (by omega) (HN3.out.kept ((HB8.out.trans (hW.mono (by omega))).mono (by omega))) (by have := hW.size; omega)
              rw [h] at h9
              exact h9))
            have HI0 := Lib.hid (HIS.out _ _ q0)
            have HI1 := Lib.hid (HIS.out _ _ q1)
            have HI2 := Lib.hid (HIS.out _ _ q2)
            have HFF := Lib.hid (fun W (hW : Kept w8 W) => (show Calls Try.prog 13 #[.slice a1 p.length c1, .int .i64 (b : Int)] W (fun e w' => e = .returned (.int .i64 (f : Int)) ∧ Below W.heap.size W w') from by
              have h9 := HC.out.first w1.heap.size W a1 c1 b (by omega) (HN3.out.kept ((HB8.out.trans (hW.mono (by omega))).mono (by omega))) (by have := hW.size; omega)
              rw [hf] at h9
              exact h9))
            have hk8 : Kept w8 w8 := Below.refl _ _
            have hg4f : g4 < w8.heap.size := by omega
            have hgf : g < w8.heap.size := by omega
            have k0 : (0 : Int) ≤ (k : Int) := Int.natCast_nonneg _
            have k1 : (k : Int) < (bs.length : Int) := by omega
            clear hf b8 f0 f1 hc7
            clear HCM HCM2 hk0 hk5 h1 h6 h7 HMN HMS HNX HBR HN1 HN2 HB1 HB2 HB4 HB5 HB6 HB7 hr0 hr1 HBX HSB HO2 HBy HL HCC HMM
            have hz := hk8.size
            go_wp2_with fail
            go_region_held3 (fun w' => w'.cell? ⟨g4, 0, none⟩ = some (.int .i64 (x0 : Int)) ∧ w'.cell? ⟨g4, 1, none⟩ = some (.int .i64 (x1 : Int)) ∧ w'.cell? ⟨g, off + k, none⟩ = some (.int .i64 (b : Int))) (first | go_keep | ((repeat' apply And.intro) <;> (rw [hb1.cell (by simp; omega)]; simp [*]))) ((first
              | (go_at_call 16; refine (HIS.out _ _ ?_ _ ?_).mono ?_; assumption; (first | exact hk8 | exact Kept.drew hk8); rintro e u1 ⟨rfl, hb1⟩; replace hk8 : Kept w8 u1 := (by first | exact Kept.call hk8 hb1 | exact Kept.call (Kept.drew hk8) hb1); have hz := hk8.size)
              | (go_at_call 13; refine (HFF.out _ ?_).mono ?_; (first | exact hk8 | exact Kept.drew hk8); rintro e u1 ⟨rfl, hb1⟩; replace hk8 : Kept w8 u1 := (by first | exact Kept.call hk8 hb1 | exact Kept.call (Kept.drew hk8) hb1); have hz := hk8.size)))
            have HB9 := Lib.hid (HB8.out.trans (hk8.mono (by omega)))
            go_wp2_with fail
            go_roundw
            case rel => exact ⟨k + 1, hlt, by go_num, HB9.out⟩
            case measure => simp [intOf]; omega
      · obtain rfl : k = bs.length := by omega
        go_wp2_with fail
        go_ret
        exact ⟨rfl, HB3.out.trans (HB.out.mono (by omega))⟩

end Go.Proofs.Ytbbeafablmnjnaa
