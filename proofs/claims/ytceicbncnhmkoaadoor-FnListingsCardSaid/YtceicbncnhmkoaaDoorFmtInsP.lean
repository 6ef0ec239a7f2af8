/- FormatIns of the program. -/
import Derived.Test.YtceicbncnhmkoaaDoorLines
import Derived.Test.YtceicbncnhmkoaaDoorFmtRel
import Derived.Test.YtceicbncnhmkoaaDoorItoa
import Derived.Test.YtceicbncnhmkoaaDoorDrawIns
import Derived.Maps.AppendAt
import Derived.Lib.OthersKept
import Derived.WalkSpells
namespace Go.Proofs.YtceicbncnhmkoaaDoor
open Go.RowKit Go

theorem Blk.below {w w' : World} {g : Nat} {cs : Array Value} (h : Blk w g cs) (hb : Below w.heap.size w w') : Blk w' g cs := h.grown (grown_below hb none) (by simp)

/-- A literal row of one text. -/
theorem Texts.lit (w : World) (base : Nat) (t : ByteArray) (hb : base ≤ w.heap.size) : Texts (w.alloc (.cells #[.string t] 9)) base (.slice (some ⟨w.heap.size, 0, none⟩) 1 1) [t] :=
  ⟨by simp, .inr ⟨w.heap.size, 1, #[.string t], rfl, hb, heap_alloc_new w _, Nat.le_refl _, by unfold maxLen; omega, rfl, rfl⟩⟩

/-- The letters of a form. -/
theorem field_form (x : Value) (s : ByteArray) (w : World) : (Instr.field 57 (.agg #[x, .string s]) 1).run Tryd.prog w = .ok (.string s) w := by kernel_rfl

/-- What holds in the loop over the letters: the iterator, the words so far, the instruction. -/
structure FmtInv (W : World) (It : Nat) (cs : Array Value) (s : ByteArray) (pos : Nat) (v : Value) (xs : List ByteArray) (wr : World) : Prop where
  it : wr.heap[It]? = some (.stringIter s pos)
  tx : Texts wr (W.heap.size + 1) v xs
  ne : v.ownBlock ≠ some It
  bk : Blk wr W.heap.size cs
  bl : Below W.heap.size W wr
  lo : W.heap.size < It

theorem FmtInv.next {W wr : World} {It : Nat} {cs : Array Value} {s : ByteArray} {pos : Nat} {v : Value} {xs : List ByteArray} (h : FmtInv W It cs s pos v xs wr) (pos' : Nat) : FmtInv W It cs s pos' v xs (wr.iterAt It s pos') := by
  have hg : wr.grownBy (wr.iterAt It s pos') (some It) := ⟨rfl, rfl, rfl, by rw [Lib.iterAt_size]; exact Nat.le_refl _, fun k _ hk => Lib.iterAt_other wr It k s pos' (fun e => hk (by rw [e]))⟩
  exact ⟨Lib.iterAt_heap wr It s pos pos' h.it, World.ownsRow.kept h.tx hg (.inr h.ne), h.ne, h.bk.grown hg (by intro e; cases e; exact absurd h.lo (Nat.lt_irrefl _)), h.bl.grown hg h.bl.size (fun k e => by cases e; exact Nat.le_of_lt h.lo), h.lo⟩
theorem FmtInv.below {W wr w1 : World} {It : Nat} {cs : Array Value} {s : ByteArray} {pos : Nat} {v : Value} {xs : List ByteArray} (h : FmtInv W It cs s pos v xs wr) (hb : Below wr.heap.size wr w1) : FmtInv W It cs s pos v xs w1 := by
  have hlt := lt_of_block h.it
  exact ⟨by rw [hb.block It hlt]; exact h.it, h.tx.below hb, h.ne, h.bk.grown (grown_below hb none) (by simp), h.bl.trans (hb.mono h.bl.size), h.lo⟩
theorem FmtInv.append {W wr w1 : World} {It : Nat} {cs : Array Value} {s : ByteArray} {pos : Nat} {v v' : Value} {xs : List ByteArray} {t : ByteArray} (h : FmtInv W It cs s pos v xs wr) (o : Obj)
    (ho : w1.ownsRow (W.heap.size + 1) 9 1 v' (xs.length + 1) (xs.map .string ++ [.string t])) (hg : (wr.alloc o).grownBy w1 v.ownBlock) (hat : v'.ownBlock = v.ownBlock ∨ v'.ownBlock = some (wr.alloc o).heap.size) : FmtInv W It cs s pos v' (xs ++ [t]) w1 := by
  have hlt := lt_of_block h.it
  have hs : (wr.alloc o).heap.size = wr.heap.size + 1 := by simp
  have h0 := h.below ((Below.refl wr.heap.size wr).alloc (Nat.le_refl _) o)
  have hown := fun k hk => World.ownsRow.lt h.tx k hk
  refine ⟨?_, ?_, ?_, h0.bk.grown hg ?_, h0.bl.grown hg h0.bl.size (fun k e => ?_), h.lo⟩
  · rw [hg.block It (by omega) (fun e => h.ne e.symm)]; exact h0.it
  · unfold Texts; rw [List.map_append, List.length_append]; exact ho
  · rcases hat with e | e
    · rw [e]; exact h.ne
    · rw [e]; intro e2; cases e2; omega
  · intro e; have := (hown _ e).1; omega
  · have := (hown k e).1; omega

theorem iterPos_at {w : World} {k : Nat} {s : ByteArray} {p : Nat} (h : w.heap[k]? = some (.stringIter s p)) : w.iterPos k = p := by simp [World.iterPos, h]

/-- A letter: its number, the field's place, the field. -/
theorem letter_at {s : ByteArray} {pos : Nat} (hlt : pos < s.size) (hl : s[pos]'hlt = 65 ∨ s[pos]'hlt = 66 ∨ s[pos]'hlt = 67) (o a b c : Int) (ha : smallF a) (hb : smallF b) (hc : smallF c) (B : Nat) :
    ∃ (ci : Int) (ix : Nat) (x : Int), ((s[pos]'hlt).toNat : Int) = ci ∧ fld (s[pos]'hlt) a b c = x ∧ (insC o a b c)[ix]? = some (.int .i64 x) ∧
      (∀ W, Calls Tryd.prog 37 #[.pointer (some ⟨B, 0, none⟩), .int .i32 ci] W (fun e w' => e = .returned (.pointer (some ⟨B, ix, none⟩)) ∧ W = w')) ∧ smallF x := by
  rcases hl with h | h | h
  · rw [h]; exact ⟨65, 1, a, rfl, rfl, rfl, fun W => field_a B W, ha⟩
  · rw [h]; exact ⟨66, 2, b, rfl, rfl, rfl, fun W => field_b B W, hb⟩
  · rw [h]; exact ⟨67, 3, c, rfl, rfl, rfl, fun W => field_c B W, hc⟩
theorem letter_small {s : ByteArray} {pos : Nat} (hlt : pos < s.size) (hl : s[pos]'hlt = 65 ∨ s[pos]'hlt = 66 ∨ s[pos]'hlt = 67) : (s[pos]'hlt).toNat < 128 := by
  rcases hl with h | h | h <;> rw [h] <;> decide

theorem Texts.open_ {w : World} {base : Nat} {v : Value} {xs : List ByteArray} (h : Texts w base v xs) (h0 : 0 < xs.length) :
    ∃ (g cap : Nat), v = .slice (some ⟨g, 0, none⟩) xs.length cap ∧ (∀ (j : Nat) x, xs[j]? = some x → w.cell? ⟨g, 0 + j, none⟩ = some (.string x)) ∧ g < w.heap.size ∧ xs.length ≤ cap := by
  rcases h.2 with ⟨_, h2⟩ | ⟨g, cap, cur, h1, _, _, hn, _⟩
  · omega
  · refine ⟨g, cap, h1, fun j x hj => ?_, (h.lt g (by rw [h1]; rfl)).2, hn⟩
    subst h1
    have hlt : j < xs.length := (List.getElem?_eq_some_iff.1 hj).1
    have hc := World.ownsRow.cellAt h j (by simpa using hlt)
    rw [Nat.zero_add, hc, List.getElem?_map, hj]
    rfl

set_option maxRecDepth 100000 in
set_option maxHeartbeats 2000000 in
theorem pFmt_yes (k : Nat) (a b c : Int) (hk : k < 17) (hok : insOk k a b c 32 = true) (w : World) (hN : NamesIs w) (hp : Pow10 w) : Calls Tryd.prog 13 #[.agg #[.int .i64 k, .int .i64 a, .int .i64 b, .int .i64 c]] w (fun e w' => e = .returned (.string (lineOf k a b c)) ∧ Below w.heap.size w w') := by
  have h1 := fun W => pInsOk_any (k : Int) a b c 32 W
  rw [hok] at h1
  replace h1 := Lib.hid h1
  have h2 := fun W hT => pOpName_any (k : Int) W hT
  have hnm : nameOf (k : Int) = opN k := by unfold nameOf; rw [if_pos (inO_iff.2 (by omega)), Int.toNat_natCast]
  rw [hnm] at h2
  replace h2 := Lib.hid h2
  have h3 := Lib.hid (fun W => pForms_any W)
  obtain ⟨_, ha, hb, hc⟩ := ok_small hok
  have HW := Lib.hid (words_small hk ha hb hc)
  have HL := Lib.hid (fun j hj => ltr_at hk j hj)
  have HFx := Lib.hid (formIx_op hk)
  have HE := Lib.hid (words_all (opN k) (ltrs k) a b c)
  have HV := Lib.hid (show formV k = .agg #[.int .i64 k, .string (ltrs k)] from rfl)
  have hls := (ltrs_ok ⟨k, hk⟩).1
  simp only at hls
  have HX : Hid (lineOf k a b c = joinT (wordsOf (opN k) (ltrs k).data.toList a b c)) := rfl
  generalize lineOf k a b c = res at *
  have HN := Lib.hid hN
  have HP := Lib.hid hp
  clear hok hN hp hnm
  go_enter Tryd.func13, Tryd.ntmps13
  go_wp2_with fail
  refine (h1.out _).mono ?_
  rintro e w1 ⟨rfl, b1⟩
  have K1 := Lib.hid ((Blk.new w (insC k a b c) _ rfl).grown (grown_below b1 none) (by simp))
  have B1 := Lib.hid ((below1 w _).trans (b1.mono (by simp)))
  have s1 := b1.size
  have hlt1 := K1.out.lt
  clear b1
  have k1 := K1.out.cell
  go_wp2_with fail
  refine (h2.out _ (HN.out.kept B1.out)).mono ?_
  rintro e w2 ⟨rfl, rfl⟩
  have T1 := Lib.hid (Texts.lit w1 (w.heap.size + 1) (opN k) (by omega))
  go_wp2_with fail
  refine (h3.out _).mono ?_
  rintro e w3 ⟨rfl, hF⟩
  have hbF := hF.2
  have hsF := hbF.size
  have hlk := look_form hF (opN k)
  unfold formAt at hlk
  rw [HFx.out] at hlk
  simp only [HV.out, World.size_alloc] at hlk
  have hI : FmtInv w w3.heap.size (insC k a b c) (ltrs k) 0 (.slice (some ⟨w1.heap.size, 0, none⟩) 1 1) (wordsOf (opN k) ((ltrs k).data.toList.take 0) a b c) (w3.iter (ltrs k) 0) := by
    have hb0 : Below (w1.alloc (.cells #[.string (opN k)] 9)).heap.size (w1.alloc (.cells #[.string (opN k)] 9)) (w3.iter (ltrs k) 0) := hbF.alloc hbF.size _
    simp only [World.size_alloc] at hsF
    refine ⟨World.iter_heap w3 _ 0, T1.out.below hb0, by intro e; simp [Value.ownBlock] at e; omega, (K1.out.alloc _).grown (grown_below hb0 none) (by simp), (B1.out.alloc B1.out.size _).trans (hb0.mono (by simp; omega)), by omega⟩
  have HI := Lib.hid hI
  have hfl := fun W => field_form (.int .i64 k) (ltrs k) W
  clear hF hbF hI T1
  obtain ⟨i0, hi0, hz0, hz1, hz2⟩ := info_parts info_9
  go_wp2_with fail
  go_loopw [4] (fun v wr => ∃ (pos : Nat) (xs : List ByteArray), pos ≤ (ltrs k).size ∧ Hid (wordsOf (opN k) ((ltrs k).data.toList.take pos) a b c = xs) ∧ FmtInv w w3.heap.size (insC k a b c) (ltrs k) pos v xs wr) (fun _ wr => (ltrs k).size - wr.iterPos w3.heap.size)
  case atStart => exact ⟨0, _, Nat.zero_le _, rfl, HI.out⟩
  case round =>
    obtain ⟨pos, xs, hpos, HX1, hinv⟩ := hrel
    have HV1 := Lib.hid hinv
    clear hinv HI
    have hxl : xs.length ≤ 4 := by
      rw [← HX1.out]; unfold wordsOf; rw [List.length_cons, List.length_map, List.length_take]; omega
    by_cases hlt : pos < (ltrs k).size
    · have hwt := words_take (opN k) (ltrs k) a b c pos hlt
      rw [HX1.out] at hwt
      obtain ⟨ci, ix, x, hci, hcx, hix, hfd, hsm⟩ := letter_at hlt (HL.out pos hlt) k a b c ha hb hc w.heap.size
      rw [hcx] at hwt
      have HWT := Lib.hid hwt
      have HFD := Lib.hid hfd
      have hnx := fun ty => Lib.run_next_ascii_at (P := Tryd.prog) wr w3.heap.size (ltrs k) pos ty HV1.out.it hlt (letter_small hlt (HL.out pos hlt))
      rw [hci] at hnx
      have H1 := Lib.hid (HV1.out.next (pos + 1))
      have hp0 := iterPos_at HV1.out.it
      obtain ⟨W1, hW1⟩ : ∃ W1, W1 = wr.iterAt w3.heap.size (ltrs k) (pos + 1) := ⟨_, rfl⟩
      rw [← hW1] at hnx H1
      have hcell := H1.out.bk.cell ix
      rw [hix] at hcell
      have HF := Lib.hid (fun W h => fmtP_any x W (by have := hsm.1; omega) (by have := hsm.2; omega) h)
      have P1 := Lib.hid (HP.out.below H1.out.bl (Nat.le_refl _))
      clear hW1 HV1 hwt hfd hci hcx hix hsm
      go_wp2_with fail
      refine (HFD.out _).mono ?_
      rintro e w' ⟨rfl, rfl⟩
      go_wp2_with fail
      refine (HF.out _ P1.out).mono ?_
      rintro e w4 ⟨rfl, b4⟩
      have H4 := Lib.hid (H1.out.below b4)
      have hb4 := H4.out.bl.size
      clear b4 hcell hnx
      go_wp2_with (at_builtin; refine wpList_append_own_at _ rfl _ _ 26 rfl (w.heap.size + 1) 9 i0 (.string ⟨#[]⟩) 1 16 Tryd.underlying26 hi0 hz0 hz1 hz2 rfl (by decide) _ _ _ rfl (H4.out.tx.alloc _) ⟨w4.heap.size, 0, none⟩ 1 1 [.string (figs x)] rfl rfl (cell_one_new _ _ _) (by simp [Value.oneCell']) (by unfold maxLen; omega) (by omega) (by have := H4.out.bk.lt; simp; omega) ?_; intro v' w5 hown5 hgrow5 _ hat5)
      have H5 := Lib.hid (H4.out.append _ hown5 hgrow5 hat5)
      clear hown5 hgrow5 hat5
      go_roundw
      case rel => exact ⟨pos + 1, _, hlt, HWT.out, H5.out⟩
      case measure => rw [iterPos_at H5.out.it, hp0]; omega
    · obtain rfl : pos = (ltrs k).size := by omega
      have hnx := fun ty => Lib.run_next_end_at (P := Tryd.prog) wr w3.heap.size (ltrs k) (ltrs k).size ty HV1.out.it (Nat.lt_irrefl _)
      have hxs : xs = wordsOf (opN k) (ltrs k).data.toList a b c := by rw [← HX1.out]; exact HE.out
      have hx0 : 0 < xs.length := by rw [hxs]; unfold wordsOf; simp
      have hres : res = joinT xs := by rw [HX.out, hxs]
      have hxw : ∀ x ∈ xs, x.size ≤ 30 := by rw [hxs]; exact HW.out.1
      obtain ⟨g, cap, rfl, hcells, hg, hcap⟩ := HV1.out.tx.open_ hx0
      have HJ := Lib.hid (Tryd.strings_Join g 0 cap xs ⟨#[32]⟩ wr hcells hg (by omega) hcap (by have := join_len xs hxw; show (Lib.join _ [32]).length ≤ _; omega))
      have HR := Lib.hid hres
      have hbl := HV1.out.bl
      clear hxs hres hxw hcells HV1
      go_wp2_with fail
      refine HJ.out.mono ?_
      rintro e w5 ⟨rfl, b5⟩
      go_wp2_with fail
      go_ret
      exact ⟨ret_str HR.out.symm, hbl.trans (b5.mono hbl.size)⟩

set_option maxHeartbeats 400000 in
theorem pFmt_any (o a b c : Int) (w : World) (hN : NamesIs w) (hp : Pow10 w) : Calls Tryd.prog 13 #[.agg #[.int .i64 o, .int .i64 a, .int .i64 b, .int .i64 c]] w (fun e w' => e = .returned (.string (insText o a b c)) ∧ Below w.heap.size w w') := by
  unfold insText
  cases hok : insOk o a b c 32 with
  | true =>
    have h := inO_iff.1 (ok_small hok).1
    obtain ⟨k, rfl⟩ := Int.eq_ofNat_of_zero_le h.1
    rw [if_pos rfl, Int.toNat_natCast]
    exact pFmt_yes k a b c (by omega) hok w hN hp
  | false =>
    rw [if_neg (by simp)]
    have h1 := fun W => pInsOk_any o a b c 32 W
    rw [hok] at h1
    replace h1 := Lib.hid h1
    clear hok hN hp
    go_enter Tryd.func13, Tryd.ntmps13
    go_wp2_with fail
    refine (h1.out _).mono ?_
    rintro e w1 ⟨rfl, b1⟩
    go_wp2_with fail
    go_ret
    exact ⟨rfl, (below1 w _).trans (b1.mono (by simp))⟩

end Go.Proofs.YtceicbncnhmkoaaDoor
