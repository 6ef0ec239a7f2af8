/- An instruction without effect inserted into a program: the model's. -/
import Derived.Test.YtnehfghffdgceaaInsNop
namespace Go.Proofs.Ytnehfghffdgceaa
open Go.RowKit Go

/-- 'append' to a row of instructions that the call owns. -/
theorem wpList_append_ownP {w : World} {ops : Array Oper} {rest : List Oper} {o : Oper} {a : Act} {Q : Exit → Act → World → Prop} (hgd : o.guard = none) (s x : Operand)
    (ho : o.op = .call { callee := .builtin .append, args := #[s, x], argTypes := #[25, 25] })
    (base : Nat) (v : Value) (n : Nat) (xs : List Int) (hs : a.eval s = v) (hown : OwnP base w v n xs) (ad : Addr) (m c : Nat) (news : List Int) (hx : a.eval x = .slice (some ad) m c) (hl : news.length = m * 4)
    (hnews : ∀ j u, (news.map (Value.int .i64))[j]? = some u → w.cell? (ad.add j) = some u) (hnm : n + m ≤ 10000000) (hbase : base ≤ w.heap.size)
    (h : ∀ v' w', Hid (OwnP base w' v' (n + m) (xs ++ news)) → Hid (w.grownBy w' v.ownBlock) → wpList Try.prog ops Q rest (a.put o.dst v') w') : wpList Try.prog ops Q (o :: rest) a w := by
  obtain ⟨i0, hi, hz0, hz1, hz2⟩ := info_parts info_ins
  refine wpList_append_own w hgd s x 25 ho base 36 i0 (.agg #[.int .i64 0, .int .i64 0, .int .i64 0, .int .i64 0]) 4 32 Try.underlying25 hi hz0 hz1 hz2 rfl (by decide) v n _ hs hown ad m c (news.map (.int .i64)) hx (by rw [List.length_map]; exact hl) hnews (ints_oneCell _ _) (by unfold maxLen; omega) (by omega) hbase ?_
  intro v' w' h1 h2 _
  refine h v' w' (show OwnP _ _ _ _ _ from ?_) h2
  unfold OwnP
  rw [List.map_append]
  exact h1

theorem ownP_made (w : World) (base : Nat) (hb : base ≤ w.heap.size) : OwnP base (w.alloc (.cells #[] 36)) (.slice (some ⟨w.heap.size, 0, none⟩) 0 0) 0 [] :=
  World.ownsRow_made w #[] 0 hb (by unfold maxLen; omega) rfl

set_option maxHeartbeats 1000000 in
theorem sInsertNop_no (B : Nat) (w : World) (g off : Nat) (p : List I4) (cap : Nat) (k : Int) (hl : p.length ≤ 1048576) (hno : insAt p k = false) (h : Nums B w (some ⟨g, off, none⟩) (flat p)) (hB : B ≤ w.heap.size) :
    Calls Try.prog 17 #[.slice (some ⟨g, off, none⟩) p.length cap, .int .i64 k] w (ProgSaid (insRes p k) (insAt p k) w) := by
  have h1 := fun W h hB => sProgramOk_any B W (some ⟨g, off, none⟩) p cap (by omega) h hB
  have HH := Lib.hid h
  have HFL := Lib.hid (flat_len p)
  rw [insRes_no hno, hno]
  clear h
  cases hok : progOk p with
  | false =>
    rw [hok] at h1
    have HP := Lib.hid h1
    clear h1 hno hok
    go_enter Try.func17, Try.ntmps17
    go_wp2_with fail
    refine (HP.out _ HH.out hB).mono ?_
    rintro e w1 ⟨rfl, b1⟩
    have BB1 := Lib.hid b1
    have s1 := b1.size
    have H1 := Lib.hid ((HH.out.kept (b1.mono hB)).kept ((Below.refl _ _).alloc (by omega) (.cells #[] 36)))
    clear b1
    go_wp2_with (at_builtin; refine wpList_append_ownP rfl (.tmp 23) (.tmp 24) rfl w1.heap.size _ 0 [] rfl (ownP_made _ _ (Nat.le_refl _)) ⟨g, off, none⟩ p.length cap (flat p) rfl HFL.out (nums_src H1.out) (by omega) (by simp) ?_; intro v2 w2 ho2 hg2)
    have HO2 := Lib.hid (((show OwnP _ _ _ _ _ from ho2.out).base s1).cast (Nat.zero_add _))
    have BB2 := Lib.hid (BB1.out.trans ((((Below.refl _ _).alloc (Nat.le_refl _) _).grown hg2.out (by simp) (by intro k e; cases e; exact Nat.le_refl _)).mono s1))
    clear ho2 hg2
    go_wp2_with fail
    go_ret2
    exact ⟨_, rfl, HO2.out, BB2.out⟩
  | true =>
    rw [hok] at h1
    have HP := Lib.hid h1
    clear h1
    by_cases h32 : p.length = 32
    · have g1 : ((p.length : Int) == 32) = true := by simp; omega
      clear hno hok h32
      go_enter Try.func17, Try.ntmps17
      go_wp2_with fail
      refine (HP.out _ HH.out hB).mono ?_
      rintro e w1 ⟨rfl, b1⟩
      have BB1 := Lib.hid b1
      have s1 := b1.size
      have H1 := Lib.hid ((HH.out.kept (b1.mono hB)).kept ((Below.refl _ _).alloc (by omega) (.cells #[] 36)))
      clear b1
      go_wp2_with (at_builtin; refine wpList_append_ownP rfl (.tmp 23) (.tmp 24) rfl w1.heap.size _ 0 [] rfl (ownP_made _ _ (Nat.le_refl _)) ⟨g, off, none⟩ p.length cap (flat p) rfl HFL.out (nums_src H1.out) (by omega) (by simp) ?_; intro v2 w2 ho2 hg2)
      have HO2 := Lib.hid (((show OwnP _ _ _ _ _ from ho2.out).base s1).cast (Nat.zero_add _))
      have BB2 := Lib.hid (BB1.out.trans ((((Below.refl _ _).alloc (Nat.le_refl _) _).grown hg2.out (by simp) (by intro k e; cases e; exact Nat.le_refl _)).mono s1))
      clear ho2 hg2
      go_wp2_with fail
      go_ret2
      exact ⟨_, rfl, HO2.out, BB2.out⟩
    · have g1 : ((p.length : Int) == 32) = false := by simp; omega
      have g3 : decide (0 ≤ k ∧ k ≤ (p.length : Int)) = false := by
        rw [decide_eq_false_iff_not]
        rintro ⟨h0, h2⟩
        obtain ⟨m, rfl⟩ := Int.eq_ofNat_of_zero_le h0
        have := insAt_yes (k := m) hok h32 (by omega)
        rw [hno] at this
        exact absurd this (by simp)
      have h2 := fun W => sIn_any k 0 p.length W
      rw [g3] at h2
      have HI := Lib.hid h2
      clear hno hok h32 h2 g3
      go_enter Try.func17, Try.ntmps17
      go_wp2_with fail
      refine (HP.out _ HH.out hB).mono ?_
      rintro e w1 ⟨rfl, b1⟩
      have BB1 := Lib.hid b1
      have s1 := b1.size
      have H1 := Lib.hid ((HH.out.kept (b1.mono hB)).kept ((Below.refl _ _).alloc (by omega) (.cells #[] 36)))
      clear b1
      go_wp2_with fail
      refine (HI.out _).mono ?_
      rintro e w' ⟨rfl, rfl⟩
      go_wp2_with (at_builtin; refine wpList_append_ownP rfl (.tmp 23) (.tmp 24) rfl w1.heap.size _ 0 [] rfl (ownP_made _ _ (Nat.le_refl _)) ⟨g, off, none⟩ p.length cap (flat p) rfl HFL.out (nums_src H1.out) (by omega) (by simp) ?_; intro v2 w2 ho2 hg2)
      have HO2 := Lib.hid (((show OwnP _ _ _ _ _ from ho2.out).base s1).cast (Nat.zero_add _))
      have BB2 := Lib.hid (BB1.out.trans ((((Below.refl _ _).alloc (Nat.le_refl _) _).grown hg2.out (by simp) (by intro k e; cases e; exact Nat.le_refl _)).mono s1))
      clear ho2 hg2
      go_wp2_with fail
      go_ret2
      exact ⟨_, rfl, HO2.out, BB2.out⟩

theorem nums_part {B : Nat} {w : World} {g off : Nat} {p : List I4} (h : Nums B w (some ⟨g, off, none⟩) (flat p)) (k : Nat) (hk : k ≤ p.length) :
    (∀ j v, ((flat (p.take k)).map (Value.int .i64))[j]? = some v → w.cell? ((⟨g, off, none⟩ : Addr).add j) = some v) ∧ (∀ j v, ((flat (p.drop k)).map (Value.int .i64))[j]? = some v → w.cell? ((⟨g, off + k * 4, none⟩ : Addr).add j) = some v) := by
  have hl : (flat (p.take k)).length = k * 4 := by rw [flat_len, List.length_take]; omega
  constructor
  · intro j v hj
    have hjl : j < k * 4 := by
      have := (List.getElem?_eq_some_iff.1 hj).1
      rwa [List.length_map, hl] at this
    refine nums_src h j v ?_
    have e := congrArg (fun l => (l.map (Value.int .i64))[j]?) (congrArg flat (List.take_append_drop k p))
    rw [← e, flat_append, List.map_append, List.getElem?_append_left (by rw [List.length_map, hl]; exact hjl)]
    exact hj
  · intro j v hj
    have hsrc := nums_src h (k * 4 + j) v (by
      have e := congrArg (fun l => (l.map (Value.int .i64))[k * 4 + j]?) (congrArg flat (List.take_append_drop k p))
      rw [← e, flat_append, List.map_append, List.getElem?_append_right (by rw [List.length_map, hl]; omega), List.length_map, hl, Nat.add_sub_cancel_left]
      exact hj)
    rw [Go.WideShapes.add_plain] at hsrc ⊢
    rw [Nat.add_assoc]
    exact hsrc

theorem zeros_src (w : World) (j : Nat) (u : Value) (h : (([0, 0, 0, 0] : List Int).map (Value.int .i64))[j]? = some u) :
    (w.alloc (.cells #[.int .i64 0, .int .i64 0, .int .i64 0, .int .i64 0] 36)).cell? ((⟨w.heap.size, 0, none⟩ : Addr).add j) = some u := by
  rw [Go.WideShapes.add_plain, Nat.zero_add, cell_of_row _ _ _ _ _ _ (heap_alloc_new w _)]
  simpa using h

theorem put_flat (p : List I4) (k : Nat) : [] ++ flat (p.take k) ++ [0, 0, 0, 0] ++ flat (p.drop k) = flat (putI p k) := by
  unfold putI
  rw [flat_append, List.nil_append, List.append_assoc]
  rfl

set_option maxHeartbeats 1000000 in
theorem sInsertNop_yes (B : Nat) (w : World) (g off : Nat) (p : List I4) (cap k : Nat) (hc : p.length ≤ cap) (hok : progOk p = true) (h32 : ¬ p.length = 32) (hk : k ≤ p.length) (h : Nums B w (some ⟨g, off, none⟩) (flat p)) (hB : B ≤ w.heap.size) :
    Calls Try.prog 17 #[.slice (some ⟨g, off, none⟩) p.length cap, .int .i64 k] w (ProgSaid (insRes p k) (insAt p k) w) := by
  have hlen := progOk_len hok
  have h1 := fun W h hB => sProgramOk_any B W (some ⟨g, off, none⟩) p cap (by omega) h hB
  rw [hok] at h1
  have HP := Lib.hid h1
  have HH := Lib.hid h
  have g1 : ((p.length : Int) == 32) = false := by simp; omega
  have h2 := fun W => sIn_any k 0 p.length W
  rw [decide_eq_true (by omega : (0 : Int) ≤ k ∧ (k : Int) ≤ p.length)] at h2
  have HI := Lib.hid h2
  have k0 : (0 : Int) ≤ (k : Int) := Int.natCast_nonneg _
  have k3 : (k : Int) ≤ (p.length : Int) := by omega
  have k4 : (k : Int) ≤ (cap : Int) := by omega
  obtain ⟨A, hA, hAd⟩ : ∃ A : Addr, (if cap = k then some (⟨g, off, none⟩ : Addr) else some ⟨g, off + k * 4, none⟩) = some A ∧ (k < p.length → A = ⟨g, off + k * 4, none⟩) := by
    by_cases e : cap = k
    · exact ⟨_, if_pos e, fun h => by omega⟩
    · exact ⟨_, if_neg e, fun _ => rfl⟩
  have HAd := Lib.hid hAd
  have HT := Lib.hid (show (flat (p.take k)).length = k * 4 by rw [flat_len, List.length_take]; omega)
  have HD := Lib.hid (show (flat (p.drop k)).length = (p.length - k) * 4 by rw [flat_len, List.length_drop])
  clear h h1 h2 hAd
  go_enter Try.func17, Try.ntmps17
  go_wp2_with fail
  refine (HP.out _ HH.out hB).mono ?_
  rintro e w1 ⟨rfl, b1⟩
  have BB1 := Lib.hid b1
  have s1 := b1.size
  have H1 := Lib.hid ((HH.out.kept (b1.mono hB)).kept ((Below.refl _ _).alloc (by omega) (.cells #[] 36)))
  clear b1
  go_wp2_with fail
  refine (HI.out _).mono ?_
  rintro e w' ⟨rfl, rfl⟩
  go_wp2_with (first
    | (at_builtin; refine wpList_append_ownP rfl (.tmp 26) (.tmp 29) rfl w1.heap.size _ 0 [] rfl (ownP_made _ _ (Nat.le_refl _)) ⟨g, off, none⟩ k cap (flat (p.take k)) rfl HT.out (nums_part H1.out k hk).1 (by omega) (by simp) ?_; intro v2 w2 ho2 hg2; have B2 := Lib.hid (((Below.refl _ w1).alloc (Nat.le_refl _) _).grown hg2.out (by simp) (by intro k e; cases e; exact Nat.le_refl _)); have s2 := B2.out.size; clear hg2)
    | (at_builtin; refine wpList_append_ownP rfl (.tmp 31) (.tmp 33) rfl w1.heap.size _ _ _ rfl (OwnP.alloc ho2.out _) ⟨w2.heap.size, 0, none⟩ 1 1 [0, 0, 0, 0] rfl rfl (zeros_src w2) (by omega) (by simp; omega) ?_; intro v3 w3 ho3 hg3; have B3 := Lib.hid ((B2.out.alloc s2 _).grown hg3.out (by simp; omega) (fun k e => (World.ownsRow.lt ho2.out k e).1)); have H3 := Lib.hid (HH.out.kept ((BB1.out.mono hB).trans (B3.out.mono (by omega)))); have s3 := B3.out.size; clear hg3)
    | (at_builtin; refine wpList_append_ownP rfl (.tmp 35) (.tmp 38) rfl w1.heap.size _ _ _ rfl ho3.out A (p.length - k) (cap - k) (flat (p.drop k)) rfl HD.out (by intro j v hj; have hjl := (List.getElem?_eq_some_iff.1 hj).1; rw [List.length_map, HD.out] at hjl; rw [HAd.out (by omega)]; exact (nums_part H3.out k hk).2 j v hj) (by omega) s3 ?_; intro v4 w4 ho4 hg4; have B4 := Lib.hid (B3.out.grown hg4.out s3 (fun k e => (World.ownsRow.lt ho3.out k e).1)); have s4 := B4.out.size; have HO4 := Lib.hid (((put_flat p k) ▸ (show OwnP _ _ _ _ _ from ho4.out)).cast (by omega : 0 + k + 1 + (p.length - k) = p.length + 1)); obtain ⟨a4, cap4, e4⟩ := HO4.out.form; subst e4; clear hg4 ho4))
  have hL := putI_len hk
  have hsm := put_small (k := k) hok
  have HY := Lib.hid (insAt_yes hok h32 hk)
  have HZ := Lib.hid (insRes_yes (insAt_yes hok h32 hk))
  have hBB : Below w.heap.size w w4 := BB1.out.trans (B4.out.mono s1)
  have HBB := Lib.hid hBB
  obtain ⟨b4, e4, hb4, hx4, hz4⟩ := HO4.out.cell 0 (by rw [flat_len, hL]; omega)
  subst e4
  have HB4 := Lib.hid hb4
  clear h32 hok hBB hb4 hA hz4 hx4
  generalize putI p k = L at *
  have HSM := Lib.hid hsm
  have HL := Lib.hid hL
  clear hsm hL
  go_loopw [7] (fun i wr => ∃ j : Nat, j ≤ p.length + 1 ∧ i = .int .i64 j ∧ OwnP w1.heap.size wr (.slice (some ⟨b4, 0, none⟩) (p.length + 1) cap4) (p.length + 1) (flat (mapTo (bumpI k) L j)) ∧ Below w1.heap.size w4 wr) (fun i _ => p.length + 1 - (intOf i).toNat)
  case atStart => exact ⟨0, Nat.zero_le _, rfl, by rw [mapTo_zero]; exact HO4.out, Below.refl _ _⟩
  case round =>
    obtain ⟨j, hj, rfl, ho, hb⟩ := hrel
    have HO := Lib.hid ho
    clear ho
    by_cases hlt : j < p.length + 1
    · have hlt2 : j < L.length := by rw [HL.out]; exact hlt
      have Hyes := Lib.hid (bump_yes (k := (k : Int)) hlt2)
      have Hno := Lib.hid (bump_no (k := (k : Int)) hlt2)
      have Hat := Lib.hid (mapTo_at (bumpI k) L j hlt2)
      have hxb : tgtI L[j] = true → L[j].b ≤ 32 := HSM.out _ (List.getElem_mem hlt2)
      have HXB := Lib.hid hxb
      generalize L[j] = x at *
      obtain ⟨c0, c1, c2, c3⟩ := HO.out.at4 j x Hat.out
      have hfz := HO.out.frozen
      have hlt' : (j : Int) < (p.length : Int) + 1 := by omega
      clear hxb hlt2
      by_cases e10 : x.o = 10
      · have ht : tgtI x = true := by unfold tgtI; simp [e10]
        have HT := Lib.hid ht
        have hxb := HXB.out ht
        have f10 : (x.o == 10) = true := by simpa using e10
        clear ht e10
        by_cases hgt : (k : Int) < x.b
        · have HG := Lib.hid hgt
          have hd : decide (x.b > (k : Int)) = true := decide_eq_true hgt
          have hlo : 0 ≤ x.b := by omega
          clear hgt
          go_wp2_with fail
          go_roundw
          case rel => exact ⟨j + 1, hlt, by go_num, by rw [← Hyes.out HT.out HG.out]; exact HO.out.stored _ _, hb.setCell (p := ⟨b4, j * 4 + 2, none⟩) HB4.out _⟩
          case measure => simp [intOf]; omega
        · have HG := Lib.hid hgt
          have hd : decide (x.b > (k : Int)) = false := decide_eq_false (by omega)
          clear hgt
          go_wp2_with fail
          go_roundw
          case rel => exact ⟨j + 1, hlt, by go_num, by rw [← Hno.out (fun h => absurd h.2 (by have := HG.out; omega))]; exact HO.out, hb⟩
          case measure => simp [intOf]; omega
      · have f10 : (x.o == 10) = false := by simpa using e10
        by_cases e11 : x.o = 11
        · have ht : tgtI x = true := by unfold tgtI; simp [e11]
          have HT := Lib.hid ht
          have hxb := HXB.out ht
          have f11 : (x.o == 11) = true := by simpa using e11
          clear ht e10 e11
          by_cases hgt : (k : Int) < x.b
          · have HG := Lib.hid hgt
            have hd : decide (x.b > (k : Int)) = true := decide_eq_true hgt
            have hlo : 0 ≤ x.b := by omega
            clear hgt
            go_wp2_with fail
            go_roundw
            case rel => exact ⟨j + 1, hlt, by go_num, by rw [← Hyes.out HT.out HG.out]; exact HO.out.stored _ _, hb.setCell (p := ⟨b4, j * 4 + 2, none⟩) HB4.out _⟩
            case measure => simp [intOf]; omega
          · have HG := Lib.hid hgt
            have hd : decide (x.b > (k : Int)) = false := decide_eq_false (by omega)
            clear hgt
            go_wp2_with fail
            go_roundw
            case rel => exact ⟨j + 1, hlt, by go_num, by rw [← Hno.out (fun h => absurd h.2 (by have := HG.out; omega))]; exact HO.out, hb⟩
            case measure => simp [intOf]; omega
        · have ht : ¬ tgtI x = true := by unfold tgtI; simp; omega
          have HT := Lib.hid ht
          have f11 : (x.o == 11) = false := by simpa using e11
          clear ht e10 e11
          go_wp2_with fail
          go_roundw
          case rel => exact ⟨j + 1, hlt, by go_num, by rw [← Hno.out (fun h => HT.out h.1)]; exact HO.out, hb⟩
          case measure => simp [intOf]; omega
    · obtain rfl : j = p.length + 1 := by omega
      have ho9 := HO.out
      have e : mapTo (bumpI k) L (p.length + 1) = L.map (bumpI k) := by rw [← HL.out]; exact mapTo_all _ _
      have e2 : p.length + 1 = (L.map (bumpI k)).length := by rw [List.length_map]; exact HL.out.symm
      rw [e] at ho9
      have hfin : ProgSaid (insRes p k) (insAt p k) w (.returned (.tuple #[.slice (some ⟨b4, 0, none⟩) (p.length + 1) cap4, .bool true])) wr := by
        rw [HZ.out, HY.out]
        exact ⟨_, rfl, (ho9.base s1).cast e2, HBB.out.trans (hb.mono s1)⟩
      have HF := Lib.hid hfin
      clear ho9 e e2 hfin
      go_wp2_with fail
      go_ret2
      exact HF.out

/-- The model's insertion, whatever is given. -/
theorem sInsertNop_any (B : Nat) (w : World) (g off : Nat) (p : List I4) (cap : Nat) (k : Int) (hl : p.length ≤ 1048576) (hc : p.length ≤ cap) (h : Nums B w (some ⟨g, off, none⟩) (flat p)) (hB : B ≤ w.heap.size) :
    Calls Try.prog 17 #[.slice (some ⟨g, off, none⟩) p.length cap, .int .i64 k] w (ProgSaid (insRes p k) (insAt p k) w) := by
  cases hi : insAt p k with
  | false =>
    have := sInsertNop_no B w g off p cap k hl hi h hB
    rwa [hi] at this
  | true =>
    have hi' := hi
    unfold insAt at hi'
    simp only [Bool.and_eq_true, Bool.not_eq_true', decide_eq_true_eq, decide_eq_false_iff_not] at hi'
    obtain ⟨⟨hok, h32⟩, h0, h1⟩ := hi'
    obtain ⟨m, rfl⟩ := Int.eq_ofNat_of_zero_le h0
    have := sInsertNop_yes B w g off p cap m hc hok h32 (by omega) h hB
    rwa [hi] at this

end Go.Proofs.Ytnehfghffdgceaa
