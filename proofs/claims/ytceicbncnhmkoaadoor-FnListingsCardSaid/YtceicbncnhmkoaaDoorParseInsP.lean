/- ParseIns of the program. -/
import Derived.Test.YtceicbncnhmkoaaDoorParseW
import Derived.Test.YtceicbncnhmkoaaDoorParseP
import Derived.Test.YtceicbncnhmkoaaDoorSplitP
import Derived.Test.YtceicbncnhmkoaaDoorFmtInsP
import Derived.Test.YtceicbncnhmkoaaDoorJoin
import Derived.Deep.CutRange
namespace Go.Proofs.YtceicbncnhmkoaaDoor
open Go.RowKit Go

theorem formAt_parts (x : ByteArray) : ∃ o l, formAt x = .agg #[.int .i64 o, .string l] := by
  unfold formAt
  cases formIx x with
  | none => exact ⟨_, _, rfl⟩
  | some k => exact ⟨_, _, rfl⟩
/-- The table, and what it holds at a name. -/
theorem pLook (x : ByteArray) (o : Int) (l : ByteArray) (hfa : formAt x = .agg #[.int .i64 o, .string l]) (w : World) : Calls Tryd.prog 35 #[] w (fun e w' => ∃ B, e = .returned (.map (some B)) ∧ Below w.heap.size w w' ∧
    (Instr.lookup 59 (.map (some B)) (.string x) true).run Tryd.prog w' = .ok (.tuple #[.agg #[.int .i64 o, .string l], .bool (formIx x).isSome]) w' ∧
    ∀ ob, (Instr.lookup 59 (.map (some B)) (.string x) true).run Tryd.prog (w'.alloc ob) = .ok (.tuple #[.agg #[.int .i64 o, .string l], .bool (formIx x).isSome]) (w'.alloc ob)) := by
  refine (pForms_any w).mono fun e w' ⟨he, hF⟩ => ⟨_, he, hF.2, ?_, fun ob => ?_⟩
  · have h := look_form_ok hF x
    rw [hfa] at h
    exact h
  · have hlt := lt_of_block hF.1
    have hF2 : FormMap w (w'.alloc ob) 17 := ⟨(Below.heap_alloc w' ob _ hlt).trans hF.1, hF.2.alloc hF.2.size ob⟩
    have h := look_form_ok hF2 x
    rw [hfa] at h
    exact h
theorem box_cells {W w w3 : World} {cs : Array Value} {T : TypeId} (h : Below W.heap.size W w3) (hW : W.heap[w.heap.size]? = some (.cells cs T (0, 0))) :
    (∀ j, w3.cell? ⟨w.heap.size, j, none⟩ = cs[j]?) ∧ ∀ j, w3.frozen? ⟨w.heap.size, j, none⟩ = false := by
  have h3 : w3.heap[w.heap.size]? = some (.cells cs T (0, 0)) := by rw [h.block _ (lt_of_block hW)]; exact hW
  exact ⟨fun j => by simp [World.cell?, h3], fun j => by simp [World.frozen?, h3]⟩
theorem cells_stored {w : World} {g : Nat} {cs : Array Value} {T : TypeId} (h : w.heap[g]? = some (.cells cs T (0, 0))) (j : Nat) (v : Value) : (w.setCell ⟨g, j, none⟩ v).heap[g]? = some (.cells (cs.setIfInBounds j v) T (0, 0)) := by
  rw [setCell_eq_setRow w g j cs _ (0, 0) v h]
  exact setRow_heap w g _ _ _ _ h
/-- The form lies in block FB. -/
def FormLaid (w1 : World) (o : Int) (l : ByteArray) (FB : Nat) (wx : World) : Prop := w1.heap.size ≤ FB ∧ wx.heap[FB]? = some (.cells #[.int .i64 o, .string l] 57 (0, 0)) ∧ Below w1.heap.size w1 wx
theorem laid_behind {w1 w3 : World} (o : Int) (l : ByteArray) (h : Below w1.drew.heap.size w1.drew w3) : FormLaid w1 o l w3.heap.size (w3.alloc (.cells #[.int .i64 o, .string l] 57)) := by
  have h2 : Below w1.heap.size w1 w3 := ⟨h.os, h.tape, h.output, h.size, h.block⟩
  exact ⟨h2.size, heap_alloc_new w3 _, h2.alloc h2.size _⟩
theorem laid_ahead {w1 w3 : World} (o : Int) (l : ByteArray) (h : Below (w1.alloc (.cells #[.int .i64 0, .string ⟨#[]⟩] 57)).drew.heap.size (w1.alloc (.cells #[.int .i64 0, .string ⟨#[]⟩] 57)).drew w3) :
    FormLaid w1 o l w1.heap.size ((w3.setCell ⟨w1.heap.size, 0, none⟩ (.int .i64 o)).setCell ⟨w1.heap.size, 1, none⟩ (.string l)) := by
  have h0 : w3.heap[w1.heap.size]? = some (.cells #[.int .i64 0, .string ⟨#[]⟩] 57 (0, 0)) := by
    rw [h.block _ (by show w1.heap.size < (w1.heap.push _).size; simp)]
    exact heap_alloc_new w1 _
  have h2 : Below w1.heap.size w1 w3 := by
    have hh : Below w1.heap.size w1 (w1.alloc (.cells #[.int .i64 0, .string ⟨#[]⟩] 57)).drew := by
      have h0 := (Below.refl w1.heap.size w1).alloc (Nat.le_refl _) (.cells #[.int .i64 0, .string ⟨#[]⟩] 57)
      exact ⟨h0.os, h0.tape, h0.output, h0.size, h0.block⟩
    exact hh.trans (h.mono hh.size)
  refine ⟨Nat.le_refl _, cells_stored (cells_stored h0 0 _) 1 _, (h2.grown (grownBy_setCell _ _ _) h2.size (fun k e => by cases e; exact Nat.le_refl _)).grown (grownBy_setCell _ _ _) (by show w1.heap.size ≤ (World.setCell _ _ _).heap.size; simp [World.setCell]; exact h2.size) (fun k e => by cases e; exact Nat.le_refl _)⟩
theorem cell_al {w : World} {p : Addr} {v : Value} (h : w.cell? p = some v) (hp : p.block < w.heap.size) (o : Obj) : (w.alloc o).cell? p = some v := by
  rw [((Below.refl w.heap.size w).alloc (Nat.le_refl _) o).cell hp]; exact h

theorem words_tail {w : World} {g : Nat} {x : ByteArray} {xs : List ByteArray} (h : ∀ (j : Nat) y, (x :: xs)[j]? = some y → w.cell? ⟨g, 0 + j, none⟩ = some (.string y)) (hg : g < w.heap.size) : WordRow w (some ⟨g, 1, none⟩) xs := fun j hj => by
  refine ⟨g, 1, rfl, hg, ?_⟩
  have := h (j + 1) xs[j] (by rw [List.getElem?_cons_succ, List.getElem?_eq_getElem hj])
  rw [show 1 + j = 0 + (j + 1) from by omega]
  exact this

/-- What holds in the loop over the letters: the iterator, the instruction so far. -/
structure ParInv (V : World) (IB It : Nat) (s : ByteArray) (k : Nat) (pos : Nat) (t : T3) (wr : World) : Prop where
  it : wr.heap[It]? = some (.stringIter s pos)
  bk : Blk wr IB (insC k t.1 t.2.1 t.2.2)
  bl : Below V.heap.size V wr
  lo : V.heap.size ≤ IB
  ne : IB < It
theorem ParInv.next {V wr : World} {IB It : Nat} {s : ByteArray} {k pos : Nat} {t : T3} (h : ParInv V IB It s k pos t wr) (pos' : Nat) : ParInv V IB It s k pos' t (wr.iterAt It s pos') := by
  have hg : wr.grownBy (wr.iterAt It s pos') (some It) := ⟨rfl, rfl, rfl, by rw [Lib.iterAt_size]; exact Nat.le_refl _, fun k _ hk => Lib.iterAt_other wr It k s pos' (fun e => hk (by rw [e]))⟩
  exact ⟨Lib.iterAt_heap wr It s pos pos' h.it, h.bk.grown hg (by intro e; cases e; exact absurd h.ne (Nat.lt_irrefl _)), h.bl.grown hg h.bl.size (fun k e => by cases e; exact Nat.le_of_lt (Nat.lt_of_le_of_lt h.lo h.ne)), h.lo, h.ne⟩
theorem ParInv.below {V wr w1 : World} {IB It : Nat} {s : ByteArray} {k pos : Nat} {t : T3} (h : ParInv V IB It s k pos t wr) (hb : Below wr.heap.size wr w1) : ParInv V IB It s k pos t w1 :=
  ⟨by rw [hb.block It (lt_of_block h.it)]; exact h.it, h.bk.grown (grown_below hb none) (by simp), h.bl.trans (hb.mono h.bl.size), h.lo, h.ne⟩
theorem ParInv.stored {V wr : World} {IB It : Nat} {s : ByteArray} {k pos : Nat} {t t' : T3} (h : ParInv V IB It s k pos t wr) (ix : Nat) (v : Value) (he : (insC k t.1 t.2.1 t.2.2).setIfInBounds ix v = insC k t'.1 t'.2.1 t'.2.2) : ParInv V IB It s k pos t' (wr.setCell ⟨IB, ix, none⟩ v) := by
  have hg := grownBy_setCell wr ⟨IB, ix, none⟩ v
  refine ⟨?_, he ▸ h.bk.stored ix v, h.bl.grown hg h.bl.size (fun k e => by cases e; exact h.lo), h.lo, h.ne⟩
  rw [hg.block It (lt_of_block h.it) (by intro e; cases e; exact absurd h.ne (Nat.lt_irrefl _))]
  exact h.it

/-- A letter: its number, the field's place, what a store there makes of the fields. -/
theorem letter_put {s : ByteArray} {pos : Nat} (hlt : pos < s.size) (hl : s[pos]'hlt = 65 ∨ s[pos]'hlt = 66 ∨ s[pos]'hlt = 67) (B : Nat) :
    ∃ (ci : Int) (ix : Nat), ((s[pos]'hlt).toNat : Int) = ci ∧
      (∀ W, Calls Tryd.prog 37 #[.pointer (some ⟨B, 0, none⟩), .int .i32 ci] W (fun e w' => e = .returned (.pointer (some ⟨B, ix, none⟩)) ∧ W = w')) ∧
      (∀ (o : Int) (t : T3) (n : Int), (insC o t.1 t.2.1 t.2.2).setIfInBounds ix (.int .i64 n) = insC o (putL (s[pos]'hlt) n t).1 (putL (s[pos]'hlt) n t).2.1 (putL (s[pos]'hlt) n t).2.2) ∧
      ∀ (o : Int) (t : T3), ∃ v, (insC o t.1 t.2.1 t.2.2)[ix]? = some (.int .i64 v) := by
  rcases hl with h | h | h
  · rw [h]; exact ⟨65, 1, rfl, fun W => field_a B W, fun o t n => rfl, fun o t => ⟨_, rfl⟩⟩
  · rw [h]; exact ⟨66, 2, rfl, fun W => field_b B W, fun o t n => rfl, fun o t => ⟨_, rfl⟩⟩
  · rw [h]; exact ⟨67, 3, rfl, fun W => field_c B W, fun o t n => rfl, fun o t => ⟨_, rfl⟩⟩

/-- The end: the instruction is laid into the result's block. -/
theorem par_end {w wx : World} {cs : Array Value} (o a b c : Int) (hD : Blk wx w.heap.size cs) (hb : Below w.heap.size w wx) : Blk (wx.setRow w.heap.size (insC o a b c)) w.heap.size (insC o a b c) ∧ Below w.heap.size w (wx.setRow w.heap.size (insC o a b c)) :=
  ⟨hD.setRow _, hb.grown (grownBy_setRow _ _ _) hb.size (fun k e => by cases e; exact Nat.le_refl _)⟩

set_option maxRecDepth 100000 in
set_option maxHeartbeats 2000000 in
theorem pParse_cons (s : ByteArray) (w : World) (hn : NumVars w) (x : ByteArray) (xs : List ByteArray) (hxsz : ∀ y ∈ xs, y.size ≤ 281474976710656) (hf : fieldsOf s = some (x :: xs)) : Calls Tryd.prog 12 #[.string s] w (fun e w' => e = .returned (parV (parseW (x :: xs))) ∧ Below w.heap.size w w') := by
  have h1 := fun W => splitP_any s W
  unfold SplitSaid at h1
  rw [hf] at h1
  simp only [Option.isSome_some, Option.getD_some] at h1
  replace h1 := Lib.hid h1
  obtain ⟨o, l, hfa⟩ := formAt_parts x
  have h3 := fun W => pLook x o l hfa W
  have HRes : Hid (parseW (x :: xs) = parseW (x :: xs)) := rfl
  generalize hres : parseW (x :: xs) = res at *
  obtain ⟨ok, hokx⟩ : ∃ ok, ok = (formIx x).isSome := ⟨_, rfl⟩
  rw [← hokx] at h3
  replace h3 := Lib.hid h3
  have HOK := Lib.hid hokx
  have HFA := Lib.hid hfa
  have HRS := Lib.hid hres
  clear hokx hfa hres HRes
  have HN := Lib.hid hn
  clear hf hn
  go_enter Tryd.func12, Tryd.ntmps12
  go_wp2_with fail
  refine (h1.out _).mono ?_
  rintro e w1 ⟨v, rfl, t1, b1⟩
  obtain ⟨g, cap, rfl, hcells, hg, hcap⟩ := t1.open_ (by simp)
  have hc0 := hcells 0 x rfl
  simp only [Nat.zero_add] at hc0
  have T1 := Lib.hid t1
  clear t1
  simp only [List.length_cons]
  have hl0 : (((xs.length + 1 : Nat) : Int) == 0) = false := by simp; omega
  go_upto_region 4 with fail
  go_cut [5, 6] from 26 to 33 (fun s5 s6 wx => ∃ FB : Nat, s6 = .pointer (some ⟨FB, 0, none⟩) ∧ s5 = .bool ok ∧ FormLaid w1 o l FB wx)
  case first =>
    have hc1 := fun o => cell_al hc0 hg o
    go_region_with (go_at_call 35; refine (h3.out _).mono ?_; rintro e w3 ⟨B, rfl, hF, hlk, hlk2⟩; have hc3 : w3.cell? ⟨g, 0, none⟩ = some (.string x) := (by rw [hF.cell (by simp; omega)]; first | assumption | exact cell_al hc0 hg _); have hc4 := fun o => cell_al hc3 (by have := hF.size; simp at this ⊢; omega) o; (try have z0 := box_cells (w := w1) hF (heap_alloc_new w1 _)); (try obtain ⟨z0, z1⟩ := z0))
    all_goals go_wp2_with fail
    all_goals go_meet
    all_goals first | exact ⟨_, rfl, rfl, laid_behind o l hF⟩ | exact ⟨_, rfl, rfl, laid_ahead o l hF⟩
  case rest =>
  obtain ⟨FB, rfl, rfl, hFB, hlaid, bF⟩ := hcut
  clear h3
  have hlw := lt_of_block hlaid
  have fc : ∀ j, wc.cell? ⟨FB, j, none⟩ = (#[Value.int .i64 o, .string l] : Array Value)[j]? := fun j => by simp [World.cell?, hlaid]
  have hs2 := bF.size
  have B2 := (Lib.hid (((below1 w _).trans (b1.mono (by simp))).trans (bF.mono (Nat.le_trans (by simp) b1.size))))
  have K2 := Lib.hid (((Blk.new w (insC 0 0 0 0) _ rfl).grown (grown_below b1 none) (by simp)).grown (grown_below bF none) (by simp))
  have W2 := Lib.hid ((words_tail hcells hg).below bF)
  clear b1 bF hcells hc0 T1
  cases hk : formIx x with
  | some k =>
    obtain ⟨rfl, rfl⟩ : o = k ∧ l = ltrs k := by
      have h := HFA.out
      simp only [formAt, hk, formV] at h
      injection h with h
      simp at h
      exact ⟨h.1.symm, h.2.symm⟩
    obtain rfl : ok = true := by rw [HOK.out, hk]; rfl
    have HRes : Hid (res = match fillL (ltrs k).data.toList xs (0, 0, 0) with | none => none | some t => okIns k t) := by
      rw [← HRS.out]; exact parseW_op hk
    have hk2 := (formIx_some hk).1
    clear HRS HFA HOK
    go_upto_region 5 with fail
    go_cut [7] from 34 to 35 (fun s7 wx => wx = wc ∧ ∃ (na : Option Addr) (nc : Nat), s7 = .slice na xs.length nc ∧ WordRow wc na xs)
    case first =>
      by_cases hcap1 : cap = 1
      · subst hcap1
        have hx0 : xs.length = 0 := by rw [List.length_cons] at hcap; omega
        go_wp2_with fail
        go_meet
        exact ⟨rfl, _, _, by rw [hx0], fun j hj => by omega⟩
      · have hcap2 : 1 < cap := by rw [List.length_cons] at hcap; omega
        go_wp2_with fail
        go_meet
        exact ⟨rfl, _, _, rfl, W2.out⟩
    case rest =>
    obtain ⟨rfl, na, nc, rfl, hwr⟩ := hcut
    clear W2 hcap hg
    by_cases hlen : (ltrs k).size = xs.length
    · have hne : ((xs.length : Int) != ((ltrs k).size : Int)) = false := by rw [hlen]; simp
      have hL := (ltrs_ok ⟨k, hk2⟩).1
      simp only at hL
      obtain ⟨i0, hi0, hz0, hz1, hz2⟩ := info_parts info_9
      have hI : ParInv wc wc.heap.size (wc.heap.size + 1) (ltrs k) k 0 (0, 0, 0) ((wc.alloc (.cells (insC k 0 0 0) 32)).iter (ltrs k) 0) :=
        ⟨by have h := World.iter_heap (wc.alloc (.cells (insC k 0 0 0) 32)) (ltrs k) 0; rw [World.size_alloc] at h; exact h, (Blk.new wc (insC k 0 0 0) _ rfl).alloc _, ((Below.refl _ _).alloc (Nat.le_refl _) _).alloc (by simp) _, Nat.le_refl _, Nat.lt_succ_self _⟩
      have hll : (ltrs k).data.toList.length = (ltrs k).size := by simp
      go_wp2_with fail
      go_loopw [9] (fun _ wr => ∃ (pos : Nat) (t : T3), pos ≤ (ltrs k).size ∧ Hid (fillL ((ltrs k).data.toList.drop pos) (xs.drop pos) t = fillL (ltrs k).data.toList xs (0, 0, 0)) ∧ ParInv wc wc.heap.size (wc.heap.size + 1) (ltrs k) k pos t wr) (fun _ wr => (ltrs k).size - wr.iterPos (wc.heap.size + 1))
      case atStart => exact ⟨0, _, Nat.zero_le _, rfl, hI⟩
      case round =>
        obtain ⟨pos, t, hpos, HX1, hinv⟩ := hrel
        have HV1 := Lib.hid hinv
        clear hinv hI
        by_cases hlt : pos < (ltrs k).size
        · obtain ⟨ci, ix, hci, hfd, hput, hsome⟩ := letter_put hlt (ltr_at hk2 pos hlt) wc.heap.size
          have hlt2 : pos < xs.length := by omega
          have hst := fill_step (L := (ltrs k).data.toList) (xs := xs) (pos := pos) (by omega) hlt2 t
          rw [HX1.out] at hst
          have HFD := Lib.hid hfd
          have hnx := fun ty => Lib.run_next_ascii_at (P := Tryd.prog) wr (wc.heap.size + 1) (ltrs k) pos ty HV1.out.it hlt (letter_small hlt (ltr_at hk2 pos hlt))
          rw [hci] at hnx
          have H1 := Lib.hid (HV1.out.next (pos + 1))
          have hp0 := iterPos_at HV1.out.it
          obtain ⟨W1, hW1⟩ : ∃ W1, W1 = wr.iterAt (wc.heap.size + 1) (ltrs k) (pos + 1) := ⟨_, rfl⟩
          rw [← hW1] at hnx H1
          obtain ⟨g1, o1, rfl, hg1, hcw⟩ := (hwr.below H1.out.bl) pos hlt2
          have N1 := Lib.hid (HN.out.below (B2.out.trans (H1.out.bl.mono B2.out.size)) (Nat.le_refl _))
          have hpl : (pos : Int) < (xs.length : Int) := by omega
          have hp1 : (0 : Int) ≤ (pos : Int) := Int.natCast_nonneg _
          have hxz : (xs[pos]).size ≤ 281474976710656 := hxsz _ (List.getElem_mem hlt2)
          clear hW1 HV1 hci
          generalize xs[pos] = y at *
          have HP := fun W h => puP_any y W hxz h
          cases hpu : puOf y.data.toList with
          | none =>
            rw [hpu] at HP hst
            simp only [puAns] at HP hst
            replace HP := Lib.hid HP
            have HR := HRes.out
            rw [hst] at HR
            subst HR
            clear HRes hpu hst
            go_wp2_with fail
            refine (HP.out _ N1.out).mono ?_
            rintro e w4 ⟨rfl, b4⟩
            have H4 := Lib.hid (H1.out.below b4)
            have K4 := Lib.hid (K2.out.below H4.out.bl)
            have B4 := Lib.hid (B2.out.trans (H4.out.bl.mono B2.out.size))
            clear b4
            go_wp2_with (refine wpList_store_row rfl 32 _ _ rfl w.heap.size (insC 0 0 0 0) rfl rfl 32 _ K4.out (by kernel_rfl) rfl (insC_one _ _ _ _) ?_)
            obtain ⟨rK, rB⟩ := par_end 0 0 0 0 K4.out B4.out
            have rC := rK.cell
            exact bodyPost_ret (v := .tuple #[.agg (insC 0 0 0 0), .bool false]) (by simp [results, Tryd.results12, go_sem, rC]) rfl ⟨rfl, rB⟩
          | some n =>
            rw [hpu] at HP hst
            simp only [puAns] at HP hst
            replace HP := Lib.hid HP
            have HST := Lib.hid hst
            clear hpu hst
            go_wp2_with fail
            refine (HP.out _ N1.out).mono ?_
            rintro e w4 ⟨rfl, b4⟩
            have H4 := Lib.hid (H1.out.below b4)
            clear b4
            go_wp2_with fail
            refine (HFD.out _).mono ?_
            rintro e w' ⟨rfl, rfl⟩
            obtain ⟨v0, hv0⟩ := hsome k t
            have c4 := H4.out.bk.cell ix
            rw [hv0] at c4
            have f4 := H4.out.bk.frozen ix
            have H5 := Lib.hid (H4.out.stored ix (.int .i64 (n : Nat)) (hput k t n))
            clear hv0
            go_wp2_with fail
            go_roundw
            case rel => (repeat apply Exists.intro); exact ⟨⟨pos + 1, _, hlt, HST.out.symm, H5.out⟩, rfl⟩
            case measure => rw [iterPos_at H5.out.it, hp0]; omega
        · obtain rfl : pos = (ltrs k).size := by omega
          have hnx := fun ty => Lib.run_next_end_at (P := Tryd.prog) wr (wc.heap.size + 1) (ltrs k) (ltrs k).size ty HV1.out.it (Nat.lt_irrefl _)
          have hfe := fill_end (L := (ltrs k).data.toList) (xs := xs) (pos := (ltrs k).size) (by omega) hlen t
          rw [HX1.out] at hfe
          have HR := HRes.out
          rw [hfe] at HR
          simp only [okIns] at HR
          obtain ⟨a, b, c⟩ := t
          simp only at HR
          have h2 := fun W => pInsOk_any (k : Int) a b c 32 W
          have hcl := HV1.out.bk.cell
          clear hfe HRes HX1
          cases hok : insOk (k : Int) a b c 32 with
          | true =>
            rw [hok] at h2 HR
            rw [if_pos rfl] at HR
            subst HR
            replace h2 := Lib.hid h2
            clear hok
            go_wp2_with fail
            refine (h2.out _).mono ?_
            rintro e w4 ⟨rfl, b4⟩
            have H4 := Lib.hid (HV1.out.below b4)
            have K4 := Lib.hid (K2.out.below H4.out.bl)
            have B4 := Lib.hid (B2.out.trans (H4.out.bl.mono B2.out.size))
            have hcl4 := H4.out.bk.cell
            clear b4 hcl hnx
            go_wp2_with (refine wpList_store_row rfl 32 _ _ rfl w.heap.size (insC k a b c) rfl rfl 32 _ K4.out (by kernel_rfl) rfl (insC_one _ _ _ _) ?_)
            obtain ⟨rK, rB⟩ := par_end (k : Int) a b c K4.out B4.out
            have rC := rK.cell
            exact bodyPost_ret (v := .tuple #[.agg (insC k a b c), .bool true]) (by simp [results, Tryd.results12, go_sem, rC]) rfl ⟨rfl, rB⟩
          | false =>
            rw [hok] at h2 HR
            rw [if_neg (by simp)] at HR
            subst HR
            replace h2 := Lib.hid h2
            clear hok
            go_wp2_with fail
            refine (h2.out _).mono ?_
            rintro e w4 ⟨rfl, b4⟩
            have H4 := Lib.hid (HV1.out.below b4)
            have K4 := Lib.hid (K2.out.below H4.out.bl)
            have B4 := Lib.hid (B2.out.trans (H4.out.bl.mono B2.out.size))
            clear b4 hcl hnx
            go_wp2_with (refine wpList_store_row rfl 32 _ _ rfl w.heap.size (insC 0 0 0 0) rfl rfl 32 _ K4.out (by kernel_rfl) rfl (insC_one _ _ _ _) ?_)
            obtain ⟨rK, rB⟩ := par_end 0 0 0 0 K4.out B4.out
            have rC := rK.cell
            exact bodyPost_ret (v := .tuple #[.agg (insC 0 0 0 0), .bool false]) (by simp [results, Tryd.results12, go_sem, rC]) rfl ⟨rfl, rB⟩
    · have hne : ((xs.length : Int) != ((ltrs k).size : Int)) = true := by rw [bne_iff_ne]; omega
      have hfl : fillL (ltrs k).data.toList xs (0, 0, 0) = none := fillL_len (by rw [show (ltrs k).data.toList.length = (ltrs k).size from by simp]; exact hlen)
      have HR := HRes.out
      rw [hfl] at HR
      subst HR
      clear hfl HRes
      go_wp2_with (refine wpList_store_row rfl 32 _ _ rfl w.heap.size (insC 0 0 0 0) rfl rfl 32 _ K2.out (by kernel_rfl) rfl (insC_one _ _ _ _) ?_)
      obtain ⟨rK, rB⟩ := par_end 0 0 0 0 K2.out B2.out
      have rC := rK.cell
      exact bodyPost_ret (v := .tuple #[.agg (insC 0 0 0 0), .bool false]) (by simp [results, Tryd.results12, go_sem, rC]) rfl ⟨rfl, rB⟩

  | none =>
    obtain rfl : ok = false := by rw [HOK.out, hk]; rfl
    have HR := HRS.out
    rw [parseW_none hk] at HR
    subst HR
    by_cases hcap1 : cap = 1
    · subst hcap1
      have hx0 : xs.length = 0 := by rw [List.length_cons] at hcap; omega
      go_wp2_with (refine wpList_store_row rfl 32 _ _ rfl w.heap.size (insC 0 0 0 0) rfl rfl 32 _ K2.out (by kernel_rfl) rfl (insC_one _ _ _ _) ?_)
      obtain ⟨rK, rB⟩ := par_end 0 0 0 0 K2.out B2.out
      have rC := rK.cell
      exact bodyPost_ret (v := .tuple #[.agg (insC 0 0 0 0), .bool false]) (by simp [results, Tryd.results12, go_sem, rC]) rfl ⟨rfl, rB⟩
    · have hcap2 : 1 < cap := by rw [List.length_cons] at hcap; omega
      go_wp2_with (refine wpList_store_row rfl 32 _ _ rfl w.heap.size (insC 0 0 0 0) rfl rfl 32 _ K2.out (by kernel_rfl) rfl (insC_one _ _ _ _) ?_)
      obtain ⟨rK, rB⟩ := par_end 0 0 0 0 K2.out B2.out
      have rC := rK.cell
      exact bodyPost_ret (v := .tuple #[.agg (insC 0 0 0 0), .bool false]) (by simp [results, Tryd.results12, go_sem, rC]) rfl ⟨rfl, rB⟩

set_option maxRecDepth 100000 in
set_option maxHeartbeats 1000000 in
theorem pParse_none (s : ByteArray) (w : World) (hf : fieldsOf s = none ∨ fieldsOf s = some []) : Calls Tryd.prog 12 #[.string s] w (fun e w' => e = .returned (parV none) ∧ Below w.heap.size w w') := by
  have h1 := fun W => splitP_any s W
  unfold SplitSaid at h1
  rcases hf with hf | hf
  all_goals
    rw [hf] at h1
    simp only [Option.isSome_some, Option.isSome_none, Option.getD_some, Option.getD_none] at h1
    replace h1 := Lib.hid h1
    clear hf
    go_enter Tryd.func12, Tryd.ntmps12
    go_wp2_with fail
    refine (h1.out _).mono ?_
    rintro e w1 ⟨v, rfl, t1, b1⟩
    obtain ⟨g, cap, rfl⟩ := t1.form
    have K2 := Lib.hid ((Blk.new w (insC 0 0 0 0) _ rfl).grown (grown_below b1 none) (by simp))
    have B2 := Lib.hid ((below1 w _).trans (b1.mono (by simp)))
    clear t1 b1
    simp only [List.length_nil]
    go_wp2_with (refine wpList_store_row rfl 32 _ _ rfl w.heap.size (insC 0 0 0 0) rfl rfl 32 _ K2.out (by kernel_rfl) rfl (insC_one _ _ _ _) ?_)
    obtain ⟨rK, rB⟩ := par_end 0 0 0 0 K2.out B2.out
    have rC := rK.cell
    exact bodyPost_ret (v := .tuple #[.agg (insC 0 0 0 0), .bool false]) (by simp [results, Tryd.results12, go_sem, rC]) rfl ⟨rfl, rB⟩

theorem pParse_any (s : ByteArray) (w : World) (hn : NumVars w) : Calls Tryd.prog 12 #[.string s] w (fun e w' => e = .returned (parV (parseL s)) ∧ Below w.heap.size w w') := by
  unfold parseL
  cases hf : fieldsOf s with
  | none => exact pParse_none s w (.inl hf)
  | some ws =>
    cases ws with
    | nil => exact pParse_none s w (.inr hf)
    | cons x xs => exact pParse_cons s w hn x xs (fun y hy => by have := (fields_good hf).1 y (List.mem_cons_of_mem _ hy); have := this.2.1; omega) hf

end Go.Proofs.YtceicbncnhmkoaaDoor
