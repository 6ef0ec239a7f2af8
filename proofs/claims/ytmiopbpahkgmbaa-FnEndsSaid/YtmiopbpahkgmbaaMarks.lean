/- What is reached, marked: the program's. -/
import Derived.Test.YtmiopbpahkgmbaaBools
namespace Go.Proofs.Ytmiopbpahkgmbaa
open Go.RowKit Go

/-- The world while the program marks: the row of what was found, the marks, the variable of the result. -/
structure MW (w wr : World) (v : Value) (bs : List Bool) (xs : List Int) : Prop where
  own : Own (w.heap.size + 2) wr v xs
  marks : OwnB 104 (w.heap.size + 1) wr (w.heap.size + 1) bs
  res : OwnB 104 w.heap.size wr w.heap.size (List.replicate 33 false)
  bel : Below w.heap.size w wr

theorem MW.size {w wr : World} {v : Value} {bs : List Bool} {xs : List Int} (h : MW w wr v bs xs) : w.heap.size + 2 ≤ wr.heap.size := by
  have := h.marks.lt
  omega
theorem MW.below {w wr w2 : World} {v : Value} {bs : List Bool} {xs : List Int} (h : MW w wr v bs xs) (hb : Below wr.heap.size wr w2) : MW w w2 v bs xs :=
  ⟨h.own.below hb, h.marks.below hb, h.res.below hb, h.bel.trans (hb.mono h.bel.size)⟩
theorem MW.set {w wr : World} {v : Value} {bs : List Bool} {xs : List Int} (h : MW w wr v bs xs) (m : Nat) : MW w (wr.setCell ⟨w.heap.size + 1, m, none⟩ (.bool true)) v (bs.set m true) xs := by
  have hg := grownBy_setCell wr ⟨w.heap.size + 1, m, none⟩ (.bool true)
  refine ⟨h.own.grown hg (fun k hk => ?_), h.marks.stored m true, h.res.grown hg (by simp), h.bel.setCell (by simp) _⟩
  cases hk
  refine .inr fun c hc => ?_
  have := (World.ownsRow.lt h.own c hc).1
  show c ≠ w.heap.size + 1
  omega
theorem MW.appended {w wr w2 : World} {v v2 : Value} {o : Obj} {bs : List Bool} {xs : List Int} {x : Int} (h : MW w wr v bs xs)
    (hown2 : w2.ownsRow (w.heap.size + 2) 3 1 v2 (xs.length + 1) (xs.map (.int .i64) ++ [.int .i64 x])) (hg2 : (wr.alloc o).grownBy w2 v.ownBlock) : MW w w2 v2 bs (xs ++ [x]) := by
  have hg : wr.grownBy w2 v.ownBlock := grownBy_trans (World.grownBy_alloc _ _ _) hg2
  have hk : ∀ k, v.ownBlock = some k → w.heap.size + 2 ≤ k := fun k e => (World.ownsRow.lt h.own k e).1
  refine ⟨?_, h.marks.grown hg (fun e => ?_), h.res.grown hg (fun e => ?_), h.bel.trans (grownBy_below hg h.bel.size (fun k e => ?_))⟩
  · unfold Own
    rw [List.map_append, List.length_append]
    exact hown2
  · have := hk _ e.symm; omega
  · have := hk _ e.symm; omega
  · have := hk _ e; omega

theorem marks_start {w : World} {zs : List Value} (hz : zs = List.replicate 33 (Value.bool false)) (k : Nat) :
    MW w (((w.alloc (.cells zs.toArray 104)).alloc (.cells (zs.set k (.bool true)).toArray 104)).alloc (.cells #[.int .i64 (k : Int)] 3)) (.slice (some ⟨w.heap.size + 2, 0, none⟩) 1 1) ((List.replicate 33 false).set k true) [(k : Int)] := by
  subst hz
  have e1 : List.replicate 33 (Value.bool false) = (List.replicate 33 false).map .bool := by rw [List.map_replicate]
  have e2 : (List.replicate 33 (Value.bool false)).set k (.bool true) = ((List.replicate 33 false).set k true).map .bool := by rw [List.map_set, ← e1]
  rw [e2, e1]
  refine ⟨Own.made _ [(k : Int)] (by simp) (by omega) rfl (by unfold maxLen; simp), OwnB.alloc (OwnB.made _ _ (by simp) (Nat.le_refl _) (by unfold maxLen; simp)) _, OwnB.alloc (OwnB.alloc (OwnB.made _ _ rfl (Nat.le_refl _) (by unfold maxLen; simp)) _) _, below3 _ _ _ _⟩

/-- After so many successors of found node j. -/
def InnerRel (p : List I4) (us : List Int) (w : World) (j : Nat) (y : Int) (ys : List Int) (vs : Value) (i v : Value) (wr : World) : Prop :=
  ∃ (k : Nat) (bs : List Bool) (xs : List Int), k ≤ ys.length ∧ i = .int .i64 k ∧ Hid (Found p us bs xs j ∧ xs[j]? = some y ∧ ∀ m ∈ ys.take k, m ∈ xs) ∧ MW w wr v bs xs ∧ Own (w.heap.size + 2) wr vs ys ∧ (∀ c, vs.ownBlock = some c → v.ownBlock ≠ some c)

theorem inner_yes {p : List I4} {us ys : List Int} {w wr : World} {j k m : Nat} {y : Int} {vs v : Value} {bs : List Bool} {xs : List Int} (hk : k < ys.length) (hy : ys[k] = (m : Int)) (hb : bs.getD m false = true)
    (hF : Found p us bs xs j ∧ xs[j]? = some y ∧ ∀ m ∈ ys.take k, m ∈ xs) (hM : MW w wr v bs xs) (ho : Own (w.heap.size + 2) wr vs ys) (hne : ∀ c, vs.ownBlock = some c → v.ownBlock ≠ some c) : InnerRel p us w j y ys vs (.int .i64 ((k : Int) + 1)) v wr := by
  refine ⟨k + 1, bs, xs, hk, by go_num, ⟨hF.1, hF.2.1, fun x hx => ?_⟩, hM, ho, hne⟩
  rw [List.take_succ_eq_append_getElem hk, List.mem_append, List.mem_singleton, hy] at hx
  rcases hx with hx | rfl
  · exact hF.2.2 x hx
  · exact (hF.1.mem m).1 hb

theorem inner_no {p : List I4} {us ys : List Int} {w w2 : World} {j k m : Nat} {y : Int} {vs v2 : Value} {bs : List Bool} {xs : List Int} (hp : progOk p = true) (hk : k < ys.length) (hys : ys = nextL p y.toNat) (hy : ys[k] = (m : Int)) (hb : bs.getD m false = false)
    (hF : Found p us bs xs j ∧ xs[j]? = some y ∧ ∀ m ∈ ys.take k, m ∈ xs) (hM : MW w w2 v2 (bs.set m true) (xs ++ [(m : Int)])) (ho : Own (w.heap.size + 2) w2 vs ys) (hne : ∀ c, vs.ownBlock = some c → v2.ownBlock ≠ some c) : InnerRel p us w j y ys vs (.int .i64 ((k : Int) + 1)) v2 w2 := by
  obtain ⟨hj, ej⟩ := List.getElem?_eq_some_iff.1 hF.2.1
  refine ⟨k + 1, _, _, hk, by go_num, ⟨hF.1.more hp hj (by rw [ej, ← hys, ← hy]; exact List.getElem_mem hk) hb, ?_, fun x hx => ?_⟩, hM, ho, hne⟩
  · rw [List.getElem?_append_left hj]; exact hF.2.1
  · rw [List.take_succ_eq_append_getElem hk, List.mem_append, List.mem_singleton, hy] at hx
    rcases hx with hx | rfl
    · exact List.mem_append_left _ (hF.2.2 x hx)
    · simp

theorem one_src (w : World) (x : Int) (n : Nat) (hn : n = w.heap.size) : ∀ j u, [Value.int .i64 x][j]? = some u → (w.alloc (.cells #[.int .i64 x] 3)).cell? ((⟨n, 0, none⟩ : Addr).add j) = some u := by
  subst hn
  exact cell_one_new w (.int .i64 x) 3

theorem getElem?_zeros {zs : List Value} (hz : zs = List.replicate 33 (Value.bool false)) {k : Nat} (hk : k < 33) : zs[k]? = some (.bool false) := by
  subst hz
  rw [List.getElem?_replicate, if_pos hk]

theorem vs_kept {w wr w3 : World} {vs x : Value} {ys : List Int} {o : Obj} {row : Option Nat} {m : Nat} (ho : Own (w.heap.size + 2) wr vs ys) (hg : ((wr.setCell ⟨w.heap.size + 1, m, none⟩ x).alloc o).grownBy w3 row) (hne : ∀ c, vs.ownBlock = some c → row ≠ some c) : Own (w.heap.size + 2) w3 vs ys := by
  have h1 : Own (w.heap.size + 2) (wr.setCell ⟨w.heap.size + 1, m, none⟩ x) vs ys := ho.grown (grownBy_setCell wr ⟨w.heap.size + 1, m, none⟩ x) (fun k hk => by
    cases hk
    refine .inr fun c hc => ?_
    have := (World.ownsRow.lt ho c hc).1
    show c ≠ w.heap.size + 1
    omega)
  exact (h1.alloc o).grown hg (fun k hk => .inr fun c hc e => hne c hc (by rw [hk, e]))
theorem vs_apart {B n : Nat} {wr : World} {vs v v2 : Value} {ys : List Int} (ho : Own B wr vs ys) (hne : ∀ c, vs.ownBlock = some c → v.ownBlock ≠ some c) (hat : v2.ownBlock = v.ownBlock ∨ v2.ownBlock = some n) (hn : wr.heap.size ≤ n) : ∀ c, vs.ownBlock = some c → v2.ownBlock ≠ some c := by
  intro c hc e
  rcases hat with h | h
  · exact hne c hc (by rw [← h, e])
  · have := (World.ownsRow.lt ho c hc).2
    rw [h] at e
    cases e
    omega
theorem found_next {p : List I4} {us ys : List Int} {bs : List Bool} {xs : List Int} {j : Nat} {y : Int} (hys : ys = nextL p y.toNat) (hF : Found p us bs xs j ∧ xs[j]? = some y ∧ ∀ m ∈ ys.take ys.length, m ∈ xs) : Found p us bs xs (j + 1) := by
  obtain ⟨hj, ej⟩ := List.getElem?_eq_some_iff.1 hF.2.1
  refine hF.1.next hj ?_
  rw [ej, ← hys]
  have h := hF.2.2
  rwa [List.take_length] at h

set_option maxRecDepth 100000 in
set_option maxHeartbeats 1000000 in
theorem pMarks_any (B : Nat) (w : World) (a : Option Addr) (p : List I4) (cap k : Nat) (hp : progOk p = true) (hk : k ≤ p.length) (h : Nums B w a (flat p)) (hB : B ≤ w.heap.size) (f : Nat → Bool) (hf : IsReach p [(k : Int)] f) :
    Calls Try.prog 92 #[.slice a p.length cap, .int .i64 k] w (Said (.agg (((List.range 33).map f).map Value.bool).toArray) w) := by
  obtain ⟨i0, hi0, hz0, hz1, hz2⟩ := info_parts info_int
  have h32 := progOk_len hp
  have HH := Lib.hid h
  have HP := Lib.hid hp
  have HF := Lib.hid hf
  have H0 := Lib.hid (Found.first hp hk)
  have hz : [Value.bool false, Value.bool false, Value.bool false, Value.bool false, Value.bool false, Value.bool false, Value.bool false, Value.bool false, Value.bool false, Value.bool false, Value.bool false, Value.bool false, Value.bool false, Value.bool false, Value.bool false, Value.bool false, Value.bool false, Value.bool false, Value.bool false, Value.bool false, Value.bool false, Value.bool false, Value.bool false, Value.bool false, Value.bool false, Value.bool false, Value.bool false, Value.bool false, Value.bool false, Value.bool false, Value.bool false, Value.bool false, Value.bool false][k]? = some (.bool false) := getElem?_zeros rfl (by omega)
  clear h hp hf
  go_enter Try.func92, Try.ntmps92
  go_wp2_with fail
  clear hz
  go_loopw [6, 7] (fun v i wr => ∃ (j : Nat) (bs : List Bool) (xs : List Int), i = .int .i64 j ∧ Hid (Found p [(k : Int)] bs xs j) ∧ MW w wr v bs xs) (fun _ i _ => 33 - (intOf i).toNat)
  case atStart => exact ⟨0, _, _, rfl, H0.out, marks_start rfl k⟩
  case round =>
    obtain ⟨j, bs, xs, rfl, hF, hM⟩ := hrel
    have hle := hF.out.le
    have hmost := hF.out.most
    have hsz := hM.size
    have HM := Lib.hid hM
    obtain ⟨av, cv, rfl⟩ := hM.own.form
    clear hM
    by_cases hlt : j < xs.length
    · have hyr := hF.out.rng _ (List.getElem_mem hlt)
      have hxy := Lib.hid (List.getElem?_eq_getElem hlt)
      obtain ⟨gv, rfl, _, _, hc⟩ := HM.out.own.cell j hlt
      generalize xs[j] = y at *
      obtain ⟨y, rfl⟩ := Int.eq_ofNat_of_zero_le hyr.1
      have h1 := pSucc_any B wr a p cap y (by omega) (by omega) (HH.out.kept (HM.out.bel.mono hB)) (Nat.le_trans hB HM.out.bel.size)
      have hyl := nextL_le p y
      have hyn := nextL_rng HP.out y
      have hys : nextL p y = nextL p ((y : Int)).toNat := by simp
      generalize nextL p y = ys at *
      replace h1 := Lib.hid h1
      have HYN := Lib.hid hyn
      have HYS := Lib.hid hys
      clear hys hyn
      go_wp2_with fail
      refine h1.out.mono ?_
      rintro e w1 ⟨vs, rfl, o1, b1⟩
      have s1 := b1.size
      have HM1 := Lib.hid (HM.out.below b1)
      have HO1 := Lib.hid (o1.lower hsz)
      have hne : ∀ c, vs.ownBlock = some c → (Value.slice (some ⟨gv, 0, none⟩) xs.length cv).ownBlock ≠ some c := fun c hc e => by
        have h2 := (World.ownsRow.lt o1 c hc).1
        have h3 := (World.ownsRow.lt HM.out.own c e).2
        omega
      have HNE := Lib.hid hne
      obtain ⟨asl, csl, rfl⟩ := o1.form
      clear hne o1 b1 hc
      go_wp2_with fail
      go_loopw [6, 27] (fun v i w2 => InnerRel p [(k : Int)] w j (y : Int) ys (.slice asl ys.length csl) i v w2) (fun _ i _ => ys.length - (intOf i).toNat)
      case atStart => exact ⟨0, bs, xs, Nat.zero_le _, rfl, ⟨hF.out, hxy.out, by simp⟩, HM1.out, HO1.out, HNE.out⟩
      case round =>
        obtain ⟨i, bs2, xs2, hi, rfl, hF2, hM2, hO2, hne2⟩ := hrel
        have HM2 := Lib.hid hM2
        have HO2 := Lib.hid hO2
        have HNE2 := Lib.hid hne2
        have hsz2 := hM2.size
        have hlen2 := hF2.out.1.len
        have hmost2 := hF2.out.1.most
        obtain ⟨av2, cv2, rfl⟩ := hM2.own.form
        clear hne2 hM2
        by_cases hit : i < ys.length
        · obtain ⟨gs, rfl, _, _, hc⟩ := hO2.cell i hit
          have hmr := HYN.out _ (List.getElem_mem hit)
          have hym := Lib.hid (rfl : ys[i] = ys[i])
          generalize hyv : ys[i] = m at hc hmr hym
          obtain ⟨m, rfl⟩ := Int.eq_ofNat_of_zero_le hmr.1
          have HYV := Lib.hid hyv
          have hm33 : m < 33 := by omega
          have hcm := HM2.out.marks.cell m (by omega)
          have hfm := HM2.out.marks.frozen m
          clear hyv hym hO2 hlen2
          cases hb : bs2.getD m false with
          | true =>
            rw [hb] at hcm
            have HB := Lib.hid hb
            clear hb
            go_wp2_with fail
            go_roundw
            case rel => exact inner_yes hit HYV.out HB.out hF2.out HM2.out HO2.out HNE2.out
            case measure => simp [intOf]; omega
          | false =>
            rw [hb] at hcm
            have HB := Lib.hid hb
            clear hb
            have HM3 := Lib.hid (HM2.out.set m)
            have HO3 := Lib.hid (World.ownsRow.alloc HM3.out.own (.cells #[.int .i64 (m : Int)] 3))
            have HSRC := Lib.hid (one_src (wr.setCell ⟨w.heap.size + 1, m, none⟩ (.bool true)) m wr.heap.size (by simp))
            go_wp2_with (at_builtin; go_loud (refine wpList_append_own_at _ rfl _ _ 25 rfl (w.heap.size + 2) 3 i0 (.int .i64 0) 1 8 Try.underlying25 hi0 hz0 hz1 hz2 rfl (by decide) _ _ _ rfl HO3.out ⟨wr.heap.size, 0, none⟩ 1 1 [.int .i64 (m : Int)] rfl rfl HSRC.out (by simp [Value.oneCell']) (by unfold maxLen; omega) (by omega) (by simp; omega) ?_); intro v2 w3 hown3 hgrow3 _ hat3)
            go_roundw
            case rel => exact inner_no HP.out hit HYS.out HYV.out HB.out hF2.out (HM3.out.appended hown3 hgrow3) (vs_kept HO2.out hgrow3 HNE2.out) (vs_apart HO2.out HNE2.out hat3 (by simp))
            case measure => simp [intOf]; omega
        · obtain rfl : i = ys.length := by omega
          go_wp2_with fail
          go_roundw
          case rel => exact ⟨j + 1, bs2, xs2, by go_num, found_next HYS.out hF2.out, HM2.out⟩
          case measure => simp [intOf]; omega
    · obtain rfl : j = xs.length := by omega
      have hbs := hF.out.all HF.out
      subst hbs
      have HR := Lib.hid HM.out.marks.range
      have HT := Lib.hid (HM.out.res.there (n := (((List.range 33).map f).map Value.bool).toArray.size) (by simp))
      have HONE := Lib.hid (all_oneCell_toArray (cs := ((List.range 33).map f).map Value.bool) (by intro v hv; obtain ⟨b, _, rfl⟩ := List.mem_map.1 hv; rfl))
      go_wp2_with (first
        | (refine wpList_load_mid rfl 104 (.tmp 5) rfl (w.heap.size + 1) 0 rfl _ (.array 33 4) HR.out rfl rfl (by kernel_rfl) ?_)
        | (refine wpList_store_mid rfl 104 (.tmp 4) (.tmp 42) rfl w.heap.size 0 (((List.range 33).map f).map Value.bool).toArray rfl rfl HT.out (by kernel_rfl) HONE.out ?_))
      have HR2 := Lib.hid (World.rangeAt_setCells_same wr w.heap.size 0 (((List.range 33).map f).map Value.bool) (by have h := HT.out; rwa [List.size_toArray] at h))
      exact bodyPost_ret (v := .agg (((List.range 33).map f).map Value.bool).toArray) (results_cell_mid Try.results92 _ _ _ _ _ (.array 33 4) rfl HR2.out rfl rfl (by kernel_rfl)) rfl ⟨rfl, below_setCells _ 0 HM.out.bel (Nat.le_refl _)⟩

end Go.Proofs.Ytmiopbpahkgmbaa
