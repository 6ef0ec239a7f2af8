/- Joins: the model's InsideOf, IsInside, IsForward. -/
import Derived.Test.YtbnebghpakllpaaJoinS
namespace Go.Proofs.Ytbnebghpakllpaa
open Go.RowKit Go

theorem seek_at {w w4 w5 : World} {n : Nat} {vs : Value} {ys : List Int} {g cap : Nat} (hm : OwnB 4 w.heap.size w4 w.heap.size (List.replicate n false)) (hb : Below w.heap.size w w4) (hv : vs = .slice (some ⟨g, 0, none⟩) ys.length cap)
    (ho : Own w4.heap.size w5 vs ys) (hb5 : Below w4.heap.size w4 w5) : SW w w5 vs (List.replicate n false) ys := by
  have hl := hm.lt
  refine ⟨OwnQ.of_own (ho.lower (by omega)) (by rw [hv]; intro e; cases e), hm.below hb5, hb.trans (hb5.mono hb.size)⟩

set_option maxRecDepth 100000 in
set_option maxHeartbeats 2000000 in
theorem sInsideYes_any (B : Nat) (w : World) (a : Option Addr) (p : List I4) (R : List Int → Nat → Bool) (hR : AllReach p R) (RA : List Int → Int → Nat → Bool) (hRA : AllAvoid p RA) (cap b : Nat) (hin : inL (brQ p) (b : Int) = true) (h : Nums B w a (flat p)) (hB : B ≤ w.heap.size) :
    Calls Try.prog 40 #[.slice a p.length cap, .int .i64 b] w (RowSaid (insideQ p R RA b) w) := by
  obtain ⟨i0, hi0, hz0, hz1, hz2⟩ := info_parts info_int
  obtain ⟨i1, hi1, hy0, hy1, hy2⟩ := info_parts info_bool
  obtain ⟨hp, b', eb, hb, hbr⟩ := br_mem.1 hin
  obtain rfl : b = b' := by omega
  have h32 := progOk_len hp
  have hl : p.length ≤ 10000000 := by omega
  have g1 := Lib.hid (sBranches_any B w a p cap hl h hB)
  have g2 := Lib.hid (fun W h hB => sJoin_any B W a p R hR RA hRA cap b hp hb hbr h hB)
  have HH := Lib.hid h
  have HP := Lib.hid hp
  have HIN := Lib.hid hin
  have e : insideQ p R RA b = nodesTo (RA (nextL p b) (joinB p R RA b)) (p.length + 1) := by unfold insideQ; rw [if_pos hin, Int.toNat_natCast]
  rw [e]
  obtain ⟨hbx, hbl⟩ := brQ_small (p := p)
  have HBX := Lib.hid hbx
  have HF := Lib.hid (fun c => fun k => hRA (nextL p b) c k)
  have H0 := Lib.hid (fun c => SeekA.first (p := p) (us := nextL p b) (c := c) (nextL_rng hp b))
  have g3 := Lib.hid (fun W h hB => sNext_put B W a p cap b hl (by omega) h hB)
  have hnb := nextL_le p b
  generalize joinB p R RA b = c at *
  generalize brQ p = bb at *
  have HFC := Lib.hid (HF.out c)
  have H0C := Lib.hid (H0.out c)
  clear h hR hRA e hbx hbr hin hp HF H0
  go_enter Try.func40, Try.ntmps40
  go_wp2_with fail
  refine g1.out.mono ?_
  rintro e w1 ⟨v, rfl, o1, b1⟩
  obtain ⟨a1, c1, rfl⟩ := o1.form
  have HO1 := Lib.hid (o1.readA (rng_small hl HBX.out))
  have B1 := Lib.hid b1
  clear o1 b1
  go_wp2_with fail
  refine (sHas_any w1.heap.size w1 a1 bb c1 b (by omega) HO1.out (Nat.le_refl _)).mono ?_
  rw [HIN.out]
  rintro e w2 ⟨rfl, b2⟩
  have B2 := Lib.hid (B1.out.trans (b2.mono B1.out.size))
  clear b2
  go_wp2_with fail
  refine (g2.out _ (HH.out.kept (B2.out.mono hB)) (Nat.le_trans hB B2.out.size)).mono ?_
  rintro e wj ⟨rfl, b3⟩
  have BJ := Lib.hid (B2.out.trans (b3.mono B2.out.size))
  have sJ := BJ.out.size
  clear b3
  go_wp2_with (at_make; refine wpList_make_full _ rfl _ _ _ rfl wj.heap.size 4 i1 (.bool false) 1 Try.underlying56 hi1 hy0 hy1 .i64 .i64 _ _ (p.length + 1) rfl rfl (by go_num) (by go_num) (by rw [hy2]; omega) (by unfold maxLen; omega) (Nat.le_refl _) ?_; intro w4 hown hgrow; have HM0 := Lib.hid (bools_made hown); have HB0 := Lib.hid (grownBy_below hgrow (Nat.le_refl _) (fun _ e => by cases e)); clear hown hgrow)
  refine (g3.out _ (HH.out.kept ((BJ.out.trans (HB0.out.mono sJ)).mono hB)) (Nat.le_trans hB (Nat.le_trans sJ HB0.out.size))).mono ?_
  rintro e w5 ⟨gq, cq, rfl, o5, b5⟩
  have HQ := Lib.hid (seek_at HM0.out HB0.out rfl o5 b5)
  clear o5 b5
  go_wp2_with fail
  go_loopg [7] (seekG p (List.replicate (p.length + 1) false) (nextL p b)) (fun g v wr => ∃ (bs : List Bool) (ys : List Int), Hid (SeekA p (nextL p b) c bs ys ∧ seekG p bs ys ≤ g) ∧ SW wj wr v bs ys)
  case atStart => exact ⟨_, _, ⟨H0C.out, Nat.le_refl _⟩, HQ.out⟩
  case round =>
    obtain ⟨bs, ys, hF, hM⟩ := hrel
    have HM := Lib.hid hM
    have hsz := hM.size
    have hlen := hF.out.1.len
    obtain ⟨g, off, qc, rfl, hg, hg2, hqc⟩ := hM.queue.form
    clear hM
    cases ys with
    | nil =>
      have hbs := hF.out.1.all HFC.out
      subst hbs
      clear hlen
      have HW := Lib.hid (BJ.out.trans (HM.out.bel.mono sJ))
      go_wp2_with fail
      refine (sMarked_any _ _ _ _ _ (by omega) HM.out.marks).mono ?_
      intro e w8 hr
      have HRT := Lib.hid (row_said hr rfl HW.out)
      obtain ⟨v8, rfl, _, _⟩ := HRT.out
      clear hr
      go_wp2_with fail
      go_ret
      exact HRT.out
    | cons y ys =>
      have hyr := hF.out.1.rng y (by simp)
      obtain ⟨y, rfl⟩ := Int.eq_ofNat_of_zero_le hyr.1
      have hc := HM.out.queue.head
      have hcm := HM.out.marks.cell y (by omega)
      have hfm := HM.out.marks.frozen y
      obtain ⟨n, rfl⟩ : ∃ n, gk = n + 1 := ⟨gk - 1, by have h := hF.out.2; unfold seekG at h; simp at h; omega⟩
      have h1 := fun W h hB => sNext_any B W a p cap y (by omega) (by omega) h hB
      replace h1 := Lib.hid h1
      have hlq : ys.length + 1 ≤ qc := by simpa using hqc
      have hysl := hF.out.1.size
      have hcnt := hF.out.1.count
      have hnl := nextL_le p y
      clear hqc hlen
      by_cases hq1 : qc = 1
      · subst hq1
        obtain rfl : ys = [] := List.eq_nil_of_length_eq_zero (by omega)
        have HT := Lib.hid (HM.out.tail (off' := off) (by simp))
        cases hb : bs.getD y false with
        | true =>
          rw [hb] at hcm
          have HB := Lib.hid hb
          clear hb hlq
          go_wp2_with fail
          go_roundg n
          case rel => exact ⟨bs, [], ⟨hF.out.1.old (.inl HB.out), seekG_old hF.out.2⟩, HT.out⟩
          case measure => omega
        | false =>
          rw [hb] at hcm
          have HB := Lib.hid hb
          clear hb
          by_cases hyc : (y : Int) = c
          · have hyce : ((y : Int) == c) = true := by simpa using hyc
            have HYC := Lib.hid hyc
            clear hlq hyc
            go_wp2_with fail
            go_roundg n
            case rel => exact ⟨bs, [], ⟨hF.out.1.old (.inr HYC.out), seekG_old hF.out.2⟩, HT.out⟩
            case measure => omega
          · have hyce : ((y : Int) == c) = false := by simpa using hyc
            have HYC := Lib.hid hyc
            clear hyc
            have HM3 := Lib.hid (HT.out.set y)
            have HS3 := Lib.hid (hF.out.1.new HP.out HB.out HYC.out)
            have HG3 := Lib.hid (seekA_new hF.out.1 HB.out hF.out.2)
            go_wp2_with fail
            refine (h1.out _ (HH.out.kept ((BJ.out.trans (HM3.out.bel.mono sJ)).mono hB)) (Nat.le_trans hB (Nat.le_trans sJ HM3.out.bel.size))).mono ?_
            rintro e w3 ⟨vs, rfl, o3, b3⟩
            have HM4 := Lib.hid (HM3.out.below b3)
            have HO3 := Lib.hid o3
            have hs4 := HM4.out.size
            clear o3 b3 hc hcm hfm
            go_wp2_with (at_builtin; refine wpList_append_q _ rfl (.tmp 45) (.tmp 48) rfl (wj.heap.size + 1) i0 hi0 hz0 hz1 hz2 _ _ [] (nextL p y) rfl HM4.out.queue rfl _ HO3.out (by simp at hysl ⊢; omega) (by omega) ?_; intro v5 w5 hq5 hg5)
            have HM5 := Lib.hid (HM4.out.append hq5 hg5)
            clear hq5 hg5
            go_roundg n
            case rel => exact ⟨_, _, ⟨HS3.out, HG3.out⟩, HM5.out⟩
            case measure => omega
      · have HT := Lib.hid (HM.out.tail (off' := off + 1) (by simp [hq1]))
        cases hb : bs.getD y false with
        | true =>
          rw [hb] at hcm
          have HB := Lib.hid hb
          clear hb hlq
          go_wp2_with fail
          go_roundg n
          case rel => exact ⟨bs, ys, ⟨hF.out.1.old (.inl HB.out), seekG_old hF.out.2⟩, HT.out⟩
          case measure => omega
        | false =>
          rw [hb] at hcm
          have HB := Lib.hid hb
          clear hb
          by_cases hyc : (y : Int) = c
          · have hyce : ((y : Int) == c) = true := by simpa using hyc
            have HYC := Lib.hid hyc
            clear hlq hyc
            go_wp2_with fail
            go_roundg n
            case rel => exact ⟨bs, ys, ⟨hF.out.1.old (.inr HYC.out), seekG_old hF.out.2⟩, HT.out⟩
            case measure => omega
          · have hyce : ((y : Int) == c) = false := by simpa using hyc
            have HYC := Lib.hid hyc
            clear hyc
            have HM3 := Lib.hid (HT.out.set y)
            have HS3 := Lib.hid (hF.out.1.new HP.out HB.out HYC.out)
            have HG3 := Lib.hid (seekA_new hF.out.1 HB.out hF.out.2)
            go_wp2_with fail
            refine (h1.out _ (HH.out.kept ((BJ.out.trans (HM3.out.bel.mono sJ)).mono hB)) (Nat.le_trans hB (Nat.le_trans sJ HM3.out.bel.size))).mono ?_
            rintro e w3 ⟨vs, rfl, o3, b3⟩
            have HM4 := Lib.hid (HM3.out.below b3)
            have HO3 := Lib.hid o3
            have hs4 := HM4.out.size
            clear o3 b3 hc hcm hfm
            go_wp2_with (at_builtin; refine wpList_append_q _ rfl (.tmp 45) (.tmp 48) rfl (wj.heap.size + 1) i0 hi0 hz0 hz1 hz2 _ _ ys (nextL p y) rfl HM4.out.queue rfl _ HO3.out (by simp at hysl ⊢; omega) (by omega) ?_; intro v5 w5 hq5 hg5)
            have HM5 := Lib.hid (HM4.out.append hq5 hg5)
            clear hq5 hg5
            go_roundg n
            case rel => exact ⟨_, _, ⟨HS3.out, HG3.out⟩, HM5.out⟩
            case measure => omega

set_option maxRecDepth 100000 in
set_option maxHeartbeats 1000000 in
theorem sInside_any (B : Nat) (w : World) (a : Option Addr) (p : List I4) (R : List Int → Nat → Bool) (hR : AllReach p R) (RA : List Int → Int → Nat → Bool) (hRA : AllAvoid p RA) (cap : Nat) (b : Int) (hl : p.length ≤ 10000000) (h : Nums B w a (flat p)) (hB : B ≤ w.heap.size) :
    Calls Try.prog 40 #[.slice a p.length cap, .int .i64 b] w (RowSaid (insideQ p R RA b) w) := by
  cases hin : inL (brQ p) b with
  | true =>
    obtain ⟨_, k, rfl, _, _⟩ := br_mem.1 hin
    exact sInsideYes_any B w a p R hR RA hRA cap k hin h hB
  | false =>
    have g1 := Lib.hid (sBranches_any B w a p cap hl h hB)
    have HIN := Lib.hid hin
    have e : insideQ p R RA b = [] := by unfold insideQ; rw [if_neg (by rw [hin]; simp)]
    rw [e]
    obtain ⟨hbx, hbl⟩ := brQ_small (p := p)
    have HBX := Lib.hid hbx
    generalize brQ p = bb at *
    clear h hR hRA e hbx hin
    go_enter Try.func40, Try.ntmps40
    go_wp2_with fail
    refine g1.out.mono ?_
    rintro e w1 ⟨v, rfl, o1, b1⟩
    obtain ⟨a1, c1, rfl⟩ := o1.form
    have HO1 := Lib.hid (o1.readA (rng_small hl HBX.out))
    have B1 := Lib.hid b1
    clear o1 b1
    go_wp2_with fail
    refine (sHas_any w1.heap.size w1 a1 bb c1 b (by omega) HO1.out (Nat.le_refl _)).mono ?_
    rw [HIN.out]
    rintro e w2 ⟨rfl, b2⟩
    have B2 := Lib.hid (B1.out.trans (b2.mono B1.out.size))
    have s2 := B2.out.size
    clear b2
    go_wp2_with fail
    go_ret
    exact ⟨_, rfl, (Own.made w2 [] rfl (Nat.le_refl _) rfl (by unfold maxLen; simp)).lower s2, B2.out.alloc s2 _⟩

theorem inside_small {p : List I4} {R : List Int → Nat → Bool} {RA : List Int → Int → Nat → Bool} {b : Int} : (∀ x ∈ insideQ p R RA b, 0 ≤ x ∧ x ≤ p.length) ∧ (insideQ p R RA b).length ≤ 33 := by
  unfold insideQ
  split
  · rename_i h
    have h32 := progOk_len (br_mem.1 h).1
    exact ⟨(fun x hx => by obtain ⟨i, h1, _, rfl⟩ := nodesTo_mem.1 hx; omega), Nat.le_trans (nodesTo_le _ _) (by omega)⟩
  · exact ⟨(fun x hx => by cases hx), by simp⟩

set_option maxRecDepth 100000 in
set_option maxHeartbeats 400000 in
theorem sIsInside_any (B : Nat) (w : World) (a : Option Addr) (p : List I4) (R : List Int → Nat → Bool) (hR : AllReach p R) (RA : List Int → Int → Nat → Bool) (hRA : AllAvoid p RA) (cap : Nat) (b x : Int) (hl : p.length ≤ 10000000) (h : Nums B w a (flat p)) (hB : B ≤ w.heap.size) :
    Calls Try.prog 39 #[.slice a p.length cap, .int .i64 b, .int .i64 x] w (Said (.bool (isInsideQ p R RA b x)) w) := by
  have h1 := Lib.hid (sInside_any B w a p R hR RA hRA cap b hl h hB)
  obtain ⟨hbx, hbl⟩ := inside_small (p := p) (R := R) (RA := RA) (b := b)
  have HBX := Lib.hid hbx
  have e : isInsideQ p R RA b x = inL (insideQ p R RA b) x := rfl
  rw [e]
  generalize insideQ p R RA b = bb at *
  clear h hR hRA e hbx
  go_enter Try.func39, Try.ntmps39
  go_wp2_with fail
  refine h1.out.mono ?_
  rintro e w1 ⟨v, rfl, o1, b1⟩
  obtain ⟨a1, c1, rfl⟩ := o1.form
  have HO1 := Lib.hid (o1.readA (rng_small hl HBX.out))
  have B1 := Lib.hid b1
  clear o1 b1
  go_wp2_with fail
  refine (sHas_any w1.heap.size w1 a1 bb c1 x (by omega) HO1.out (Nat.le_refl _)).mono ?_
  rintro e w2 ⟨rfl, b2⟩
  have B2 := Lib.hid (B1.out.trans (b2.mono B1.out.size))
  clear b2
  go_wp2_with fail
  go_ret
  exact ⟨rfl, B2.out⟩

end Go.Proofs.Ytbnebghpakllpaa
