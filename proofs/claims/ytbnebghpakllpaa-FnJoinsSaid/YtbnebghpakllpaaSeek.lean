/- What is reached, marked: the model's. -/
import Derived.Test.YtbnebghpakllpaaQueue
namespace Go.Proofs.Ytbnebghpakllpaa
open Go.RowKit Go

theorem info_bool : (Try.prog.info? 4).map (fun i => (i.zero, i.size, i.bytes)) = some (some (.bool false), 1, 1) := by kernel_rfl

/-- A call that returns a new row of bools. -/
def BoolsSaid (bs : List Bool) (w : World) (e : Ending) (w' : World) : Prop :=
  ∃ g : Nat, e = .returned (.slice (some ⟨g, 0, none⟩) bs.length bs.length) ∧ OwnB 4 w.heap.size w' g bs ∧ Below w.heap.size w w'

theorem bools_made {w w1 : World} {n : Nat} (h : w1.ownsRow w.heap.size 4 1 (.slice (some ⟨w.heap.size, 0, none⟩) n n) n (madeCells (Value.bool false).cells (n * 1)).toList) : OwnB 4 w.heap.size w1 w.heap.size (List.replicate n false) := by
  have e : (madeCells (Value.bool false).cells (n * 1)).toList = (List.replicate n false).map .bool := by
    rw [Nat.mul_one]
    show (madeCells #[Value.bool false] n).toList = _
    rw [toList_madeCells_one, List.map_replicate]
  rw [e] at h
  unfold OwnB
  rw [List.length_replicate]
  exact h

/-- The model's search: the world. -/
structure SW (w wr : World) (v : Value) (bs : List Bool) (ys : List Int) : Prop where
  queue : OwnQ (w.heap.size + 1) wr v ys
  marks : OwnB 4 w.heap.size wr w.heap.size bs
  bel : Below w.heap.size w wr

theorem SW.size {w wr : World} {v : Value} {bs : List Bool} {ys : List Int} (h : SW w wr v bs ys) : w.heap.size + 1 ≤ wr.heap.size := by
  have := h.marks.lt
  omega
theorem SW.below {w wr w2 : World} {v : Value} {bs : List Bool} {ys : List Int} (h : SW w wr v bs ys) (hb : Below wr.heap.size wr w2) : SW w w2 v bs ys :=
  ⟨h.queue.below hb, h.marks.below hb, h.bel.trans (hb.mono h.bel.size)⟩
theorem SW.set {w wr : World} {v : Value} {bs : List Bool} {ys : List Int} (h : SW w wr v bs ys) (m : Nat) : SW w (wr.setCell ⟨w.heap.size, m, none⟩ (.bool true)) v (bs.set m true) ys := by
  have hg := grownBy_setCell wr ⟨w.heap.size, m, none⟩ (.bool true)
  refine ⟨h.queue.grown hg (fun e => ?_), h.marks.stored m true, h.bel.setCell (by simp) _⟩
  have := (h.queue.lt _ e).1
  simp at this
  omega
theorem SW.append {w wr w2 : World} {v v2 : Value} {bs : List Bool} {ys zs : List Int} (h : SW w wr v bs ys) (hq : OwnQ (w.heap.size + 1) w2 v2 zs) (hg : wr.grownBy w2 v.ownBlock) : SW w w2 v2 bs zs := by
  have hk : ∀ k, v.ownBlock = some k → w.heap.size + 1 ≤ k := fun k e => (h.queue.lt k e).1
  refine ⟨hq, h.marks.grown hg (fun e => ?_), h.bel.trans (grownBy_below hg h.bel.size (fun k e => ?_))⟩
  · have := hk _ e.symm; omega
  · have := hk _ e; omega
theorem SW.tail {w wr : World} {g off off' n cap : Nat} {x : Int} {bs : List Bool} {ys : List Int} (h : SW w wr (.slice (some ⟨g, off, none⟩) n cap) bs (x :: ys)) (ho : off' = if cap = 1 then off else off + 1) : SW w wr (.slice (some ⟨g, off', none⟩) ys.length (cap - 1)) bs ys :=
  ⟨h.queue.tail ho, h.marks, h.bel⟩

theorem nums_cells {B : Nat} {w : World} {a : Addr} {xs : List Int} (h : Nums B w (some a) xs) : ∀ j u, (xs.map (Value.int .i64))[j]? = some u → w.cell? (a.add j) = some u := by
  intro j u hu
  have hj : j < xs.length := by
    have := (List.getElem?_eq_some_iff.1 hu).1
    rwa [List.length_map] at this
  obtain ⟨g, off, e, _, hc⟩ := h.2 j hj
  cases e
  rw [add_off, hc, ← hu, List.getElem?_map, List.getElem?_eq_getElem hj]
  rfl

theorem seek_start {w w1 w2 : World} {v2 : Value} {n : Nat} {us : List Int} {o : Obj} (hm : OwnB 4 w.heap.size w1 w.heap.size (List.replicate n false)) (hb : Below w.heap.size w w1)
    (hown2 : w2.ownsRow (w.heap.size + 1) 3 1 v2 (0 + us.length) ([] ++ us.map (.int .i64))) (hg2 : (w1.alloc o).grownBy w2 (Value.slice (some ⟨w1.heap.size, 0, none⟩) 0 0).ownBlock) (hnil : v2 = .slice none 0 0 ↔ Value.slice (some ⟨w1.heap.size, 0, none⟩) 0 0 = .slice none 0 0 ∧ us.length = 0) :
    SW w w2 v2 (List.replicate n false) us := by
  have hl := hm.lt
  have hq : OwnQ (w.heap.size + 1) w2 v2 us := by
    refine OwnQ.of_own ?_ (fun e => by have := hnil.1 e; simp at this)
    unfold Own
    rw [Nat.zero_add, List.nil_append] at hown2
    exact hown2
  refine ⟨hq, (hm.alloc o).grown hg2 (by simp [Value.ownBlock]; omega), (hb.alloc hb.size o).grown hg2 (by simp; omega) (fun k e => ?_)⟩
  simp [Value.ownBlock] at e
  omega

set_option maxRecDepth 100000 in
set_option maxHeartbeats 1000000 in
theorem sSeek_any (B : Nat) (w : World) (a : Option Addr) (p : List I4) (cap : Nat) (hp : progOk p = true) (h : Nums B w a (flat p)) (hB : B ≤ w.heap.size) (a2 : Addr) (us : List Int) (cap2 : Nat) (hu : ∀ u ∈ us, 0 ≤ u ∧ u ≤ p.length) (hul : us.length ≤ 1000) (B2 : Nat) (h2 : Nums B2 w (some a2) us) (hB2 : B2 ≤ w.heap.size) (f : Nat → Bool) (hf : IsReach p us f) :
    Calls Try.prog 60 #[.slice a p.length cap, .slice (some a2) us.length cap2] w (BoolsSaid ((List.range (p.length + 1)).map f) w) := by
  obtain ⟨i0, hi0, hz0, hz1, hz2⟩ := info_parts info_int
  obtain ⟨i1, hi1, hy0, hy1, hy2⟩ := info_parts info_bool
  have h32 := progOk_len hp
  have HH := Lib.hid h
  have HH2 := Lib.hid h2
  have HP := Lib.hid hp
  have HF := Lib.hid hf
  have H0 := Lib.hid (Seek.first hu)
  clear h h2 hp hf hu
  go_enter Try.func60, Try.ntmps60
  go_wp2_with (first
    | (at_make; refine wpList_make_full _ rfl _ _ _ rfl w.heap.size 4 i1 (.bool false) 1 Try.underlying56 hi1 hy0 hy1 .i64 .i64 _ _ (p.length + 1) rfl rfl (by go_num) (by go_num) (by rw [hy2]; omega) (by unfold maxLen; omega) (Nat.le_refl _) ?_; intro w1 hown hgrow; have HM := Lib.hid (bools_made hown); have HB1 := Lib.hid (grownBy_below hgrow (Nat.le_refl _) (fun _ e => by cases e)); have hsz := HM.out.lt.2; have HS := Lib.hid (nums_cells ((HH2.out.kept (HB1.out.mono hB2)).kept (Below.alloc (Below.refl _ _) (Nat.le_trans hB2 HB1.out.size) (.cells #[] 3)))); clear hown hgrow)
    | (at_builtin; go_loud (refine wpList_append_own _ rfl (.tmp 12) (.tmp 13) 26 rfl (w.heap.size + 1) 3 i0 (.int .i64 0) 1 8 Try.underlying26 hi0 hz0 hz1 hz2 rfl (by decide) _ 0 [] rfl (World.ownsRow_made _ #[] 0 (by omega) (by unfold maxLen; omega) rfl) a2 us.length cap2 (us.map (.int .i64)) rfl (by simp) HS.out (by intro u hu; obtain ⟨x, _, rfl⟩ := List.mem_map.1 hu; rfl) (by unfold maxLen; omega) (by omega) (by simp; omega) ?_); intro v2 w2 hown2 hgrow2 hnil2; have HQ := Lib.hid (seek_start HM.out HB1.out hown2 hgrow2 hnil2); clear hown2 hgrow2 hnil2))
  go_loopg [6] (seekG p (List.replicate (p.length + 1) false) us) (fun g v wr => ∃ (bs : List Bool) (ys : List Int), Hid (Seek p us bs ys ∧ seekG p bs ys ≤ g) ∧ SW w wr v bs ys)
  case atStart => exact ⟨_, us, ⟨H0.out, Nat.le_refl _⟩, HQ.out⟩
  case round =>
    obtain ⟨bs, ys, hF, hM⟩ := hrel
    have HM := Lib.hid hM
    have hsz := hM.size
    have hlen := hF.out.1.len
    obtain ⟨g, off, qc, rfl, hg, hg2, hqc⟩ := hM.queue.form
    clear hM
    cases ys with
    | nil =>
      have hbs := hF.out.1.all HF.out
      subst hbs
      have HR := Lib.hid (show BoolsSaid ((List.range (p.length + 1)).map f) w (.returned (.slice (some ⟨w.heap.size, 0, none⟩) (p.length + 1) (p.length + 1))) wr from ⟨w.heap.size, by simp, HM.out.marks, HM.out.bel⟩)
      clear hlen
      go_wp2_with fail
      go_ret
      exact HR.out
    | cons y ys =>
      have hyr := hF.out.1.rng y (by simp)
      obtain ⟨y, rfl⟩ := Int.eq_ofNat_of_zero_le hyr.1
      have hc := HM.out.queue.head
      have hcm := HM.out.marks.cell y (by omega)
      have hfm := HM.out.marks.frozen y
      obtain ⟨n, rfl⟩ : ∃ n, gk = n + 1 := ⟨gk - 1, by have h := hF.out.2; unfold seekG at h; simp at h; omega⟩
      have h1 := fun W h hB => sNext_any B W a p cap y (by omega) (by omega) h hB
      replace h1 := Lib.hid h1
      have hlq : ys.length + 1 ≤ qc := by simpa using hqc
      have hysl := hF.out.1.size
      have hcnt := hF.out.1.count
      have hnl := nextL_le p y
      clear hqc hlen
      by_cases hq1 : qc = 1
      · subst hq1
        obtain rfl : ys = [] := List.eq_nil_of_length_eq_zero (by omega)
        have HT := Lib.hid (HM.out.tail (off' := off) (by simp))
        cases hb : bs.getD y false with
        | true =>
          rw [hb] at hcm
          have HB := Lib.hid hb
          clear hb hlq
          go_wp2_with fail
          go_roundg n
          case rel => exact ⟨bs, [], ⟨hF.out.1.old HB.out, seekG_old hF.out.2⟩, HT.out⟩
          case measure => omega
        | false =>
          have HB := Lib.hid hb
          rw [hb] at hcm
          clear hb
          have HM3 := Lib.hid (HT.out.set y)
          have HS3 := Lib.hid (hF.out.1.new HP.out HB.out)
          have HG3 := Lib.hid (seekG_new hF.out.1 HB.out hF.out.2)
          go_wp2_with fail
          refine (h1.out _ (HH.out.kept (HM3.out.bel.mono hB)) (Nat.le_trans hB HM3.out.bel.size)).mono ?_
          rintro e w3 ⟨vs, rfl, o3, b3⟩
          have HM4 := Lib.hid (HM3.out.below b3)
          have HO3 := Lib.hid o3
          have hs4 := HM4.out.size
          clear o3 b3 hc hcm hfm
          go_wp2_with (at_builtin; go_loud (refine wpList_append_q _ rfl (.tmp 30) (.tmp 33) rfl (w.heap.size + 1) i0 hi0 hz0 hz1 hz2 _ _ [] (nextL p y) rfl HM4.out.queue rfl _ HO3.out (by simp at hysl ⊢; omega) (by omega) ?_); intro v5 w5 hq5 hg5)
          have HM5 := Lib.hid (HM4.out.append hq5 hg5)
          clear hq5 hg5
          go_roundg n
          case rel => exact ⟨_, _, ⟨HS3.out, HG3.out⟩, HM5.out⟩
          case measure => omega
      · have HT := Lib.hid (HM.out.tail (off' := off + 1) (by simp [hq1]))
        cases hb : bs.getD y false with
        | true =>
          rw [hb] at hcm
          have HB := Lib.hid hb
          clear hb
          go_wp2_with fail
          go_roundg n
          case rel => exact ⟨bs, ys, ⟨hF.out.1.old HB.out, seekG_old hF.out.2⟩, HT.out⟩
          case measure => omega
        | false =>
          have HB := Lib.hid hb
          rw [hb] at hcm
          clear hb
          have HM3 := Lib.hid (HT.out.set y)
          have HS3 := Lib.hid (hF.out.1.new HP.out HB.out)
          have HG3 := Lib.hid (seekG_new hF.out.1 HB.out hF.out.2)
          go_wp2_with fail
          refine (h1.out _ (HH.out.kept (HM3.out.bel.mono hB)) (Nat.le_trans hB HM3.out.bel.size)).mono ?_
          rintro e w3 ⟨vs, rfl, o3, b3⟩
          have HM4 := Lib.hid (HM3.out.below b3)
          have HO3 := Lib.hid o3
          have hs4 := HM4.out.size
          clear o3 b3 hc hcm hfm
          go_wp2_with (at_builtin; go_loud (refine wpList_append_q _ rfl (.tmp 30) (.tmp 33) rfl (w.heap.size + 1) i0 hi0 hz0 hz1 hz2 _ _ ys (nextL p y) rfl HM4.out.queue rfl _ HO3.out (by simp at hysl ⊢; omega) (by omega) ?_); intro v5 w5 hq5 hg5)
          have HM5 := Lib.hid (HM4.out.append hq5 hg5)
          clear hq5 hg5
          go_roundg n
          case rel => exact ⟨_, _, ⟨HS3.out, HG3.out⟩, HM5.out⟩
          case measure => omega

end Go.Proofs.Ytbnebghpakllpaa
