/- An instruction without effect inserted into a program: the program's and the model's. -/
import Derived.Test.YtnehfghffdgceaaProgP
import Derived.Test.YtnehfghffdgceaaCopyP
import Derived.WalkSpells
namespace Go.Proofs.Ytnehfghffdgceaa
open Go.RowKit Go

/-- Is B the place of an instruction? -/
def tgtI (i : I4) : Bool := decide (i.o = 10 ∨ i.o = 11)
/-- An instruction behind the insertion at k. -/
def bumpI (k : Int) (i : I4) : I4 := if tgtI i = true ∧ k < i.b then ⟨i.o, i.a, i.b + 1, i.c⟩ else i
def nopI : I4 := ⟨0, 0, 0, 0⟩
/-- The program with an instruction without effect in front of k, ahead of the jumps' change. -/
def putI (p : List I4) (k : Nat) : List I4 := p.take k ++ (nopI :: p.drop k)
theorem putI_len {p : List I4} {k : Nat} (h : k ≤ p.length) : (putI p k).length = p.length + 1 := by
  unfold putI
  simp only [List.length_append, List.length_take, List.length_cons, List.length_drop]
  omega
def insAt (p : List I4) (k : Int) : Bool := progOk p && !(decide (p.length = 32)) && decide (0 ≤ k ∧ k ≤ p.length)
def insRes (p : List I4) (k : Int) : List I4 := if insAt p k = true then (putI p k.toNat).map (bumpI k) else p
theorem insRes_len (p : List I4) (k : Int) : (insRes p k).length ≤ p.length + 1 := by
  unfold insRes
  split
  · rename_i h
    unfold insAt at h
    simp only [Bool.and_eq_true, decide_eq_true_eq] at h
    rw [List.length_map, putI_len (by omega)]
    exact Nat.le_refl _
  · omega

/-- The first n changed, the others as they were. -/
def mapTo (f : I4 → I4) (q : List I4) (n : Nat) : List I4 := (q.take n).map f ++ q.drop n
theorem mapTo_zero (f : I4 → I4) (q : List I4) : mapTo f q 0 = q := by unfold mapTo; simp
theorem mapTo_all (f : I4 → I4) (q : List I4) : mapTo f q q.length = q.map f := by unfold mapTo; simp
theorem mapTo_len (f : I4 → I4) (q : List I4) (n : Nat) : (mapTo f q n).length = q.length := by unfold mapTo; simp; omega
theorem mapTo_at (f : I4 → I4) (q : List I4) (n : Nat) (h : n < q.length) : (mapTo f q n)[n]? = some q[n] := by
  unfold mapTo
  rw [List.getElem?_append_right (by simp; omega)]
  simp [List.getElem?_drop, Nat.min_eq_left (Nat.le_of_lt h), List.getElem?_eq_getElem h]
theorem mapTo_next (f : I4 → I4) (q : List I4) (n : Nat) (h : n < q.length) : mapTo f q (n + 1) = (mapTo f q n).set n (f q[n]) := by
  unfold mapTo
  have hl : ((q.take n).map f).length = n := by simp; omega
  rw [List.take_succ_eq_append_getElem h, List.map_append, List.set_append_right _ _ (by omega), hl, Nat.sub_self, List.drop_eq_getElem_cons h, List.set_cons_zero, List.append_assoc]
  rfl

theorem flat_setB : ∀ (q : List I4) (n : Nat) (x : I4) (v : Int), q[n]? = some x → (flat q).set (n * 4 + 2) v = flat (q.set n ⟨x.o, x.a, v, x.c⟩)
  | [], n, x, v, h => by simp at h
  | i :: q, 0, x, v, h => by
    simp only [List.getElem?_cons_zero, Option.some.injEq] at h
    subst h
    simp [flat]
  | i :: q, n + 1, x, v, h => by
    have ih := flat_setB q n x v (by simpa using h)
    rw [show (n + 1) * 4 + 2 = n * 4 + 2 + 1 + 1 + 1 + 1 from by omega]
    simp only [flat, List.set_cons_succ, ih]
theorem set_same {q : List I4} {n : Nat} {x : I4} (h : q[n]? = some x) : q.set n x = q := by
  obtain ⟨hn, rfl⟩ := List.getElem?_eq_some_iff.1 h
  simp

theorem bump_yes {q : List I4} {n : Nat} {k : Int} (h : n < q.length) (ht : tgtI q[n] = true) (hk : k < q[n].b) : (flat (mapTo (bumpI k) q n)).set (n * 4 + 2) (q[n].b + 1) = flat (mapTo (bumpI k) q (n + 1)) := by
  rw [flat_setB _ n q[n] _ (mapTo_at _ _ _ h), mapTo_next _ _ _ h]
  have e : bumpI k q[n] = ⟨q[n].o, q[n].a, q[n].b + 1, q[n].c⟩ := by unfold bumpI; rw [if_pos ⟨ht, hk⟩]
  rw [e]
theorem bump_no {q : List I4} {n : Nat} {k : Int} (h : n < q.length) (hk : ¬ (tgtI q[n] = true ∧ k < q[n].b)) : mapTo (bumpI k) q n = mapTo (bumpI k) q (n + 1) := by
  have e : bumpI k q[n] = q[n] := by unfold bumpI; rw [if_neg hk]
  rw [mapTo_next _ _ _ h, e, set_same (mapTo_at _ _ _ h)]

theorem OwnP.at4 {B : Nat} {w : World} {g n cap : Nat} {q : List I4} (h : OwnP B w (.slice (some ⟨g, 0, none⟩) n cap) n (flat q)) (k : Nat) (x : I4) (hk : q[k]? = some x) : At4 w g (k * 4) x := by
  have hl := flat_len q
  obtain ⟨hkl, rfl⟩ := List.getElem?_eq_some_iff.1 hk
  obtain ⟨f0, f1, f2, f3⟩ := flat_at hkl
  have key : ∀ j x, (flat q)[j]? = some x → w.cell? ⟨g, j, none⟩ = some (.int .i64 x) := fun j x hj => by
    obtain ⟨hjl, rfl⟩ := List.getElem?_eq_some_iff.1 hj
    obtain ⟨g', hg', _, _, hc⟩ := h.cell j hjl
    obtain rfl : g = g' := by injection hg' with e; injection e
    exact hc
  exact ⟨key _ _ f0, key _ _ f1, key _ _ f2, key _ _ f3⟩

theorem OwnP.cast {B : Nat} {w : World} {v : Value} {n m : Nat} {xs : List Int} (h : OwnP B w v n xs) (e : n = m) : OwnP B w v m xs := e ▸ h

/-- No jump of a valid program stands far. -/
theorem put_small {p : List I4} {k : Nat} (h : progOk p = true) : ∀ x ∈ putI p k, tgtI x = true → x.b ≤ 32 := by
  intro x hx ht
  unfold putI at hx
  have hp : x = nopI ∨ x ∈ p := by
    rcases List.mem_append.1 hx with h1 | h1
    · exact .inr (List.mem_of_mem_take h1)
    · rcases List.mem_cons.1 h1 with h2 | h2
      · exact .inl h2
      · exact .inr (List.mem_of_mem_drop h2)
  rcases hp with rfl | hp
  · unfold nopI; simp
  · have hlen := progOk_len h
    unfold progOk at h
    rw [List.all_eq_true] at h
    have h1 := h x hp
    unfold tgtI at ht
    simp only [decide_eq_true_eq] at ht
    unfold okI insOk at h1
    split at h1
    · simp only [Bool.and_eq_true] at h1
      obtain ⟨⟨_, hb⟩, _⟩ := h1
      unfold chB at hb
      rw [if_neg (by omega), if_pos ht] at hb
      have := (inO_iff.1 hb).2
      omega
    · exact absurd h1 (by simp)

/-- What a call leaves that returns a new row of instructions and a bool. -/
def ProgSaid (q : List I4) (b : Bool) (w : World) (e : Ending) (w' : World) : Prop :=
  ∃ v : Value, e = .returned (.tuple #[v, .bool b]) ∧ OwnP w.heap.size w' v q.length (flat q) ∧ Below w.heap.size w w'

theorem pHasTarget_any (o a b c : Int) (w : World) : Calls Try.prog 32 #[.agg #[.int .i64 o, .int .i64 a, .int .i64 b, .int .i64 c]] w (Said (.bool (tgtI ⟨o, a, b, c⟩)) w) := by
  by_cases h0 : o = 10
  · subst h0
    have e : tgtI ⟨10, a, b, c⟩ = true := by unfold tgtI; simp
    rw [e]
    go_enter Try.func32, Try.ntmps32
    go_wp2
    go_ret
    exact ⟨rfl, below1 _ _⟩
  · have e : tgtI ⟨o, a, b, c⟩ = (o == 11) := by
      unfold tgtI
      simp only
      rw [Bool.eq_iff_iff]
      simp
      omega
    rw [e]
    have hd : (o == 10) = false := by simpa using h0
    clear e
    go_enter Try.func32, Try.ntmps32
    go_wp2
    go_ret
    exact ⟨rfl, below1 _ _⟩

theorem nums_src {B : Nat} {w : World} {g off : Nat} {xs : List Int} (h : Nums B w (some ⟨g, off, none⟩) xs) : ∀ j v, (xs.map (Value.int .i64))[j]? = some v → w.cell? ((⟨g, off, none⟩ : Addr).add j) = some v := by
  intro j v hj
  rw [List.getElem?_map] at hj
  obtain ⟨x, hx, rfl⟩ := Option.map_eq_some_iff.1 hj
  obtain ⟨hjl, rfl⟩ := List.getElem?_eq_some_iff.1 hx
  obtain ⟨g', off', e, _, hc⟩ := h.2 j hjl
  cases e
  rw [Go.WideShapes.add_plain]
  exact hc

set_option maxHeartbeats 400000 in
theorem pCopyProgram_any (B : Nat) (w : World) (g off : Nat) (p : List I4) (cap : Nat) (hl : p.length ≤ 1048576) (h : Nums B w (some ⟨g, off, none⟩) (flat p)) (hB : B ≤ w.heap.size) :
    Calls Try.prog 31 #[.slice (some ⟨g, off, none⟩) p.length cap] w (fun e w' => ∃ v, e = .returned v ∧ OwnP w.heap.size w' v p.length (flat p) ∧ Below w.heap.size w w') := by
  obtain ⟨i0, hi, hz0, hz1, hz2⟩ := info_parts info_ins
  have HH := Lib.hid h
  clear h
  have hm : p.length ≤ maxLen := by unfold maxLen; omega
  have hfl := flat_len p
  go_enter Try.func31, Try.ntmps31
  go_wp2_with (at_make; refine wpList_make_full _ rfl _ _ _ rfl w.heap.size 36 i0 (.agg #[.int .i64 0, .int .i64 0, .int .i64 0, .int .i64 0]) 4 Try.underlying25 hi hz0 hz1 .i64 .i64 _ _ p.length rfl rfl rfl rfl (by rw [hz2]; omega) hm (Nat.le_refl _) ?_; intro w1 hown hgrow)
  have HC := Lib.hid ((HH.out.kept ((grownBy_below hgrow (Nat.le_refl _) (fun _ e => by cases e)).mono hB)))
  rw [madeP] at hown
  have HO : Hid (OwnP w.heap.size w1 (.slice (some ⟨w.heap.size, 0, none⟩) p.length p.length) p.length (List.replicate (p.length * 4) 0)) := Lib.hid hown
  have HG := Lib.hid hgrow
  clear hown hgrow
  obtain ⟨w2, hrun, ho2, hg2⟩ := run_copy_ownP (P := Try.prog) w1 25 25 3 36 Try.underlying25 (by kernel_rfl) (some ⟨w.heap.size, 0, none⟩) (some ⟨g, off, none⟩) p.length p.length p.length cap w.heap.size w.heap.size p.length 0 _ (flat p) HO.out (by show _ = min _ _ * 4; rw [hfl, Nat.min_self]) (fun _ => ⟨rfl, _, rfl, nums_src HC.out⟩) (by simp [hfl])
  have e : spl (List.replicate (p.length * 4) 0) 0 (flat p) = flat p := by
    unfold spl
    simp [hfl]
  rw [e] at ho2
  have HO2 := Lib.hid ho2
  have HG2 := Lib.hid hg2
  clear ho2 e hg2
  rw [hrun]
  go_wp2_with fail
  go_ret
  exact ⟨_, rfl, HO2.out, (grownBy_below HG.out (Nat.le_refl _) (fun _ e => by cases e)).trans (grownBy_below HG2.out HG.out.size (fun _ e => by cases e; exact Nat.le_refl _))⟩

theorem insRes_no {p : List I4} {k : Int} (h : insAt p k = false) : insRes p k = p := by unfold insRes; rw [h]; rfl
theorem insAt_no1 {p : List I4} {k : Int} (h : progOk p = false) : insAt p k = false := by unfold insAt; rw [h]; rfl
theorem insAt_no2 {p : List I4} {k : Int} (h : p.length = 32) : insAt p k = false := by unfold insAt; simp [h]
theorem insAt_no3 {p : List I4} {k : Int} (h : ¬ (0 ≤ k ∧ k ≤ p.length)) : insAt p k = false := by unfold insAt; rw [decide_eq_false h, Bool.and_false]
theorem insAt_yes {p : List I4} {k : Nat} (h : progOk p = true) (h2 : ¬ p.length = 32) (h3 : k ≤ p.length) : insAt p k = true := by
  unfold insAt
  have e : decide (0 ≤ (k : Int) ∧ (k : Int) ≤ p.length) = true := by rw [decide_eq_true_eq]; omega
  rw [h, e, decide_eq_false h2]
  rfl
theorem insRes_yes {p : List I4} {k : Nat} (h : insAt p k = true) : insRes p k = (putI p k).map (bumpI k) := by unfold insRes; rw [if_pos h, Int.toNat_natCast]

/-- The row of the insertion ahead of the second copy. -/
def half (p : List I4) (k : Nat) : List Int := flat (p.take k) ++ (0 :: 0 :: 0 :: 0 :: List.replicate ((p.length - k) * 4) 0)
theorem half_len {p : List I4} {k : Nat} (h : k ≤ p.length) : (half p k).length = (p.length + 1) * 4 := by
  unfold half
  simp only [List.length_append, flat_len, List.length_take, List.length_cons, List.length_replicate]
  omega
theorem half_of {p : List I4} {k : Nat} (h : k ≤ p.length) : spl (List.replicate ((p.length + 1) * 4) 0) 0 (flat (p.take k)) = half p k := by
  have hl : (flat (p.take k)).length = k * 4 := by rw [flat_len, List.length_take]; omega
  unfold spl half
  rw [List.take_zero, List.nil_append, hl, List.drop_replicate, show (p.length + 1) * 4 - (0 + k * 4) = (p.length - k) * 4 + 1 + 1 + 1 + 1 from by omega]
  rfl
theorem half_nop {p : List I4} {k : Nat} (h : k ≤ p.length) : ((((half p k).set (k * 4) 0).set (k * 4 + 1) 0).set (k * 4 + 2) 0).set (k * 4 + 3) 0 = half p k := by
  have hl : (flat (p.take k)).length = k * 4 := by rw [flat_len, List.length_take]; omega
  unfold half
  rw [set4 _ _ _ _ _ _ _ _ _ _ _ hl]
theorem half_end {p : List I4} {k : Nat} (h : k ≤ p.length) : spl (half p k) ((k + 1) * 4) (flat (p.drop k)) = flat (putI p k) := by
  have hl : (flat (p.take k)).length = k * 4 := by rw [flat_len, List.length_take]; omega
  have hd : (flat (p.drop k)).length = (p.length - k) * 4 := by rw [flat_len, List.length_drop]
  have hh := half_len h
  unfold spl
  rw [List.drop_of_length_le (l := half p k) (by rw [hh, hd]; omega), List.append_nil]
  unfold half putI
  rw [flat_append, List.take_append, hl, List.take_of_length_le (by rw [hl]; omega), show (k + 1) * 4 - k * 4 = 4 from by omega, List.append_assoc]
  rfl

set_option maxHeartbeats 1000000 in
theorem pInsertNop_yes (B : Nat) (w : World) (g off : Nat) (p : List I4) (cap k : Nat) (hc : p.length ≤ cap) (hok : progOk p = true) (h32 : ¬ p.length = 32) (hk : k ≤ p.length) (h : Nums B w (some ⟨g, off, none⟩) (flat p)) (hB : B ≤ w.heap.size) :
    Calls Try.prog 18 #[.slice (some ⟨g, off, none⟩) p.length cap, .int .i64 k] w (ProgSaid (insRes p k) (insAt p k) w) := by
  obtain ⟨i0, hi, hz0, hz1, hz2⟩ := info_parts info_ins
  have hlen := progOk_len hok
  have h1 := fun W h hB => pProgramOk_any B W (some ⟨g, off, none⟩) p cap (by omega) h hB
  rw [hok] at h1
  have HP := Lib.hid h1
  have HH := Lib.hid h
  have hm : p.length + 1 ≤ maxLen := by unfold maxLen; omega
  have g1 : ((p.length : Int) == 32) = false := by simp; omega
  have g2 : decide ((k : Int) < 0) = false := decide_eq_false (by omega)
  have g3 : decide ((k : Int) > (p.length : Int)) = false := decide_eq_false (by omega)
  clear h h1
  go_enter Try.func18, Try.ntmps18
  go_wp2_with fail
  refine (HP.out _ HH.out hB).mono ?_
  rintro e w1 ⟨rfl, b1⟩
  go_wp2_with (at_make; refine wpList_make_full _ rfl _ _ _ rfl w1.heap.size 36 i0 (.agg #[.int .i64 0, .int .i64 0, .int .i64 0, .int .i64 0]) 4 Try.underlying25 hi hz0 hz1 .i64 .i64 _ _ (p.length + 1) rfl rfl (by omega) (by omega) (by rw [hz2]; omega) hm (Nat.le_refl _) ?_; intro w2 hown hgrow)
  have BB1 := Lib.hid b1
  have B2 := Lib.hid (b1.trans (grownBy_below hgrow b1.size (fun _ e => by cases e)))
  have s1 := b1.size
  have s2 := hgrow.size
  rw [madeP] at hown
  have HO : Hid (OwnP w1.heap.size w2 (.slice (some ⟨w1.heap.size, 0, none⟩) (p.length + 1) (p.length + 1)) (p.length + 1) (List.replicate ((p.length + 1) * 4) 0)) := Lib.hid hown
  have HA := Lib.hid (grownBy_below (base := w1.heap.size) hgrow (Nat.le_refl _) (fun _ e => by cases e))
  have HC := Lib.hid (HH.out.kept (B2.out.mono hB))
  clear hown hgrow b1
  have hfl : (flat (p.take k)).length = k * 4 := by rw [flat_len, List.length_take]; omega
  have hfd : (flat (p.drop k)).length = (p.length - k) * 4 := by rw [flat_len, List.length_drop]
  have hmin : Nat.min k (p.length + 1) = k := Nat.min_eq_left (by omega)
  obtain ⟨w3, hrun, ho3, hg3⟩ := run_copy_ownP (P := Try.prog) w2 25 25 3 36 Try.underlying25 (by kernel_rfl) (some ⟨w1.heap.size, 0, none⟩) (some ⟨g, off, none⟩) (p.length + 1) (p.length + 1) k cap w1.heap.size w1.heap.size (p.length + 1) 0 _ (flat (p.take k)) HO.out (by rw [hmin]; exact hfl) (fun _ => ⟨rfl, _, rfl, fun j v hj => nums_src HC.out j v (by
      obtain ⟨hjl, rfl⟩ := List.getElem?_eq_some_iff.1 hj
      rw [List.length_map, hfl] at hjl
      have e := congrArg (fun l => (l.map (Value.int .i64))[j]?) (congrArg flat (List.take_append_drop k p))
      rw [← e, flat_append, List.map_append, List.getElem?_append_left (by rw [List.length_map, hfl]; exact hjl)]
      exact List.getElem?_eq_getElem _)⟩) (by simp [hfl]; omega)
  rw [half_of hk] at ho3
  have hfz := ho3.frozen
  obtain ⟨y, d0, d1, d2, d3⟩ := ho3.some4 k (by omega)
  have HO3 := Lib.hid ho3
  have HA3 := Lib.hid (HA.out.trans (grownBy_below hg3 s2 (fun _ e => by cases e; exact Nat.le_refl _)))
  have s3 := hg3.size
  clear ho3 hg3 hmin hfl hfd
  rw [hrun]
  clear hrun
  go_wp2_with fail
  have HO4 := Lib.hid (half_nop hk ▸ HO3.out.stored4 (k * 4) 0 0 0 0)
  have HA4 := Lib.hid ((((HA3.out.setCell (p := ⟨w1.heap.size, k * 4, none⟩) (Nat.le_refl _) (.int .i64 0)).setCell (p := ⟨w1.heap.size, k * 4 + 1, none⟩) (Nat.le_refl _) (.int .i64 0)).setCell (p := ⟨w1.heap.size, k * 4 + 2, none⟩) (Nat.le_refl _) (.int .i64 0)).setCell (p := ⟨w1.heap.size, k * 4 + 3, none⟩) (Nat.le_refl _) (.int .i64 0))
  clear d0 d1 d2 d3 hfz HO3 HA3 HO HA
  generalize (((w3.setCell ⟨w1.heap.size, k * 4, none⟩ (.int .i64 0)).setCell ⟨w1.heap.size, k * 4 + 1, none⟩ (.int .i64 0)).setCell ⟨w1.heap.size, k * 4 + 2, none⟩ (.int .i64 0)).setCell ⟨w1.heap.size, k * 4 + 3, none⟩ (.int .i64 0) = w4 at *
  have HC4 := Lib.hid (HH.out.kept ((BB1.out.mono hB).trans (HA4.out.mono (by omega))))
  have s4 : w1.heap.size ≤ w4.heap.size := HA4.out.size
  have k0 : (0 : Int) ≤ (k : Int) := Int.natCast_nonneg _
  have k1 : (0 : Int) ≤ (k : Int) + 1 := by omega
  have k2 : (k : Int) + 1 ≤ (p.length : Int) + 1 := by omega
  have k3 : (k : Int) ≤ (p.length : Int) := by omega
  have k4 : ((k : Int) + 1).toNat = k + 1 := by omega
  have k5 : IntKind.i64.wrap ((k : Int) + 1) = (k : Int) + 1 := IntWalk.i64_in _ (by omega)
  have hcs : (flat (p.drop k)).length = (p.length - k) * 4 := by rw [flat_len, List.length_drop]
  obtain ⟨D, hD⟩ : ∃ D : Option Addr, (if p.length = k then some ⟨w1.heap.size, 0, none⟩ else some ⟨w1.heap.size, (k + 1) * 4, none⟩) = D := ⟨_, rfl⟩
  obtain ⟨S, hS⟩ : ∃ S : Option Addr, (if cap = k then some ⟨g, off, none⟩ else some ⟨g, off + k * 4, none⟩) = S := ⟨_, rfl⟩
  have hpos : Hid (0 < (flat (p.drop k)).length → D = some ⟨w1.heap.size, (k + 1) * 4, none⟩ ∧ ∃ ad, S = some ad ∧ ∀ j v, ((flat (p.drop k)).map (Value.int .i64))[j]? = some v → w4.drew.cell? (ad.add j) = some v) := fun hp => by
    rw [hcs] at hp
    refine ⟨by rw [← hD, if_neg (by omega)], ⟨g, off + k * 4, none⟩, by rw [← hS, if_neg (by omega)], fun j v hj => ?_⟩
    have hjl : j < (flat (p.drop k)).length := by
      have := (List.getElem?_eq_some_iff.1 hj).1
      rwa [List.length_map] at this
    have hsrc := nums_src HC4.out (k * 4 + j) v (by
      have e := congrArg (fun l => (l.map (Value.int .i64))[k * 4 + j]?) (congrArg flat (List.take_append_drop k p))
      have hl : (flat (p.take k)).length = k * 4 := by rw [flat_len, List.length_take]; omega
      rw [← e, flat_append, List.map_append, List.getElem?_append_right (by rw [List.length_map, hl]; omega), List.length_map, hl, Nat.add_sub_cancel_left]
      exact hj)
    rw [Go.WideShapes.add_plain] at hsrc ⊢
    rw [Nat.add_assoc]
    exact hsrc
  have hn : Hid ((flat (p.drop k)).length = Nat.min (p.length - k) (p.length - k) * 4) := by
    show _ = min _ _ * 4
    rw [hcs, Nat.min_self]
  have hfit : Hid ((k + 1) * 4 + (flat (p.drop k)).length ≤ (half p k).length) := by
    show _ ≤ _
    rw [hcs, half_len hk]
    omega
  have HO4d : Hid (OwnP w1.heap.size w4.drew (.slice (some ⟨w1.heap.size, 0, none⟩) (p.length + 1) (p.length + 1)) (p.length + 1) (half p k)) := HO4.out
  clear hcs
  go_region_law (refine step_copy_ownP rfl (.tmp 45) (.tmp 48) 25 25 rfl 36 Try.underlying25 (by kernel_rfl) D S (p.length - k) (p.length - k) (p.length - k) (cap - k) (by simp [Act.eval, Act.put]) (by simp [Act.eval, Act.put]) w1.heap.size w1.heap.size (p.length + 1) ((k + 1) * 4) _ (flat (p.drop k)) HO4d.out hn.out hpos.out hfit.out ?_; intro w5 ho5 hg5)
  have ho6 := ho5.out
  rw [half_end hk] at ho6
  have HO6 := Lib.hid ho6
  have HA6 := Lib.hid (HA4.out.drew.trans (grownBy_below hg5.out (by exact s4) (fun _ e => by cases e; exact Nat.le_refl _)))
  have hL := putI_len hk
  have hsm := put_small (k := k) hok
  have HY := Lib.hid (insAt_yes hok h32 hk)
  have HZ := Lib.hid (insRes_yes (insAt_yes hok h32 hk))
  clear ho6 ho5 hg5 HO4 HO4d HC4 HC hpos hn hfit hD hS HA4 h32 hok
  generalize putI p k = L at *
  have HSM := Lib.hid hsm
  have HL := Lib.hid hL
  clear hsm hL
  go_wp2_with fail
  go_loopw [7, 52] (fun v i wr => ∃ j : Nat, j ≤ p.length + 1 ∧ i = .int .i64 j ∧ OwnP w1.heap.size wr (.slice (some ⟨w1.heap.size, 0, none⟩) (p.length + 1) (p.length + 1)) (p.length + 1) (flat (mapTo (bumpI k) L j)) ∧ Below w1.heap.size w1 wr) (fun _ i _ => p.length + 1 - (intOf i).toNat)
  case atStart => exact ⟨0, Nat.zero_le _, rfl, by rw [mapTo_zero]; exact HO6.out, HA6.out⟩
  case round =>
    obtain ⟨j, hj, rfl, ho, hb⟩ := hrel
    have HO := Lib.hid ho
    have hs := hb.size
    clear ho
    by_cases hlt : j < p.length + 1
    · have hlt2 : j < L.length := by rw [HL.out]; exact hlt
      have Hyes := Lib.hid (bump_yes (k := (k : Int)) hlt2)
      have Hno := Lib.hid (bump_no (k := (k : Int)) hlt2)
      have Hat := Lib.hid (mapTo_at (bumpI k) L j hlt2)
      have hxb : tgtI L[j] = true → L[j].b ≤ 32 := HSM.out _ (List.getElem_mem hlt2)
      have HXB := Lib.hid hxb
      generalize L[j] = x at *
      obtain ⟨c0, c1, c2, c3⟩ := HO.out.at4 j x Hat.out
      have h1 := fun W => pHasTarget_any x.o x.a x.b x.c W
      have hlt' : (j : Int) < (p.length : Int) + 1 := by omega
      clear hxb hlt2
      cases ht : tgtI x with
      | true =>
        have HT := Lib.hid ht
        rw [show tgtI ⟨x.o, x.a, x.b, x.c⟩ = true from ht] at h1
        replace h1 := Lib.hid h1
        have hxb := HXB.out ht
        clear ht
        by_cases hgt : (k : Int) < x.b
        · have HG := Lib.hid hgt
          have hd : decide (x.b > (k : Int)) = true := decide_eq_true hgt
          go_wp2_with fail
          refine (h1.out _).mono ?_
          rintro e w7 ⟨rfl, b7⟩
          obtain ⟨bc7, _⟩ := bcell b7
          have HO7 := Lib.hid ((HO.out.alloc _).below b7)
          have HB7 := Lib.hid ((hb.alloc hs _).trans (b7.mono (by simp; omega)))
          obtain ⟨d0, d1, d2, d3⟩ := HO7.out.at4 j x Hat.out
          have hfz := HO7.out.frozen
          clear b7
          go_wp2_with fail
          go_roundw
          case rel => exact ⟨j + 1, hlt, by go_num, by rw [← Hyes.out HT.out HG.out]; exact HO7.out.stored _ _, HB7.out.setCell (p := ⟨w1.heap.size, j * 4 + 2, none⟩) (Nat.le_refl _) _⟩
          case measure => simp [intOf]; omega
        · have HG := Lib.hid hgt
          have hd : decide (x.b > (k : Int)) = false := decide_eq_false (by omega)
          clear hgt
          go_wp2_with fail
          refine (h1.out _).mono ?_
          rintro e w7 ⟨rfl, b7⟩
          obtain ⟨bc7, _⟩ := bcell b7
          have HO7 := Lib.hid ((HO.out.alloc _).below b7)
          have HB7 := Lib.hid ((hb.alloc hs _).trans (b7.mono (by simp; omega)))
          clear b7
          go_wp2_with fail
          go_roundw
          case rel => exact ⟨j + 1, hlt, by go_num, by rw [← Hno.out (fun h => absurd h.2 (by have := HG.out; omega))]; exact HO7.out, HB7.out⟩
          case measure => simp [intOf]; omega
      | false =>
        have HT := Lib.hid ht
        rw [show tgtI ⟨x.o, x.a, x.b, x.c⟩ = false from ht] at h1
        replace h1 := Lib.hid h1
        clear ht
        go_wp2_with fail
        refine (h1.out _).mono ?_
        rintro e w7 ⟨rfl, b7⟩
        have HO7 := Lib.hid ((HO.out.alloc _).below b7)
        have HB7 := Lib.hid ((hb.alloc hs _).trans (b7.mono (by simp; omega)))
        clear b7
        go_wp2_with fail
        go_roundw
        case rel => exact ⟨j + 1, hlt, by go_num, by rw [← Hno.out (fun h => by rw [HT.out] at h; exact absurd h.1 (by simp))]; exact HO7.out, HB7.out⟩
        case measure => simp [intOf]; omega
    · obtain rfl : j = p.length + 1 := by omega
      have ho9 := HO.out
      have e : mapTo (bumpI k) L (p.length + 1) = L.map (bumpI k) := by rw [← HL.out]; exact mapTo_all _ _
      have e2 : p.length + 1 = (L.map (bumpI k)).length := by rw [List.length_map]; exact HL.out.symm
      rw [e] at ho9
      have hfin : ProgSaid (insRes p k) (insAt p k) w (.returned (.tuple #[.slice (some ⟨w1.heap.size, 0, none⟩) (p.length + 1) (p.length + 1), .bool true])) wr := by
        rw [HZ.out, HY.out]
        exact ⟨_, rfl, (ho9.base s1).cast e2, BB1.out.trans (hb.mono s1)⟩
      have HF := Lib.hid hfin
      clear ho9 e e2 hfin
      go_wp2_with fail
      go_ret2
      exact HF.out

set_option maxHeartbeats 400000 in
theorem pInsertNop_no (B : Nat) (w : World) (g off : Nat) (p : List I4) (cap : Nat) (k : Int) (hl : p.length ≤ 1048576) (hno : insAt p k = false) (h : Nums B w (some ⟨g, off, none⟩) (flat p)) (hB : B ≤ w.heap.size) :
    Calls Try.prog 18 #[.slice (some ⟨g, off, none⟩) p.length cap, .int .i64 k] w (ProgSaid (insRes p k) (insAt p k) w) := by
  have h1 := fun W h hB => pProgramOk_any B W (some ⟨g, off, none⟩) p cap (by omega) h hB
  have h2 := fun W h hB => pCopyProgram_any B W g off p cap hl h hB
  have HP2 := Lib.hid h2
  have HH := Lib.hid h
  rw [insRes_no hno, hno]
  clear h h2
  cases hok : progOk p with
  | false =>
    rw [hok] at h1
    have HP := Lib.hid h1
    clear h1 hno hok
    go_enter Try.func18, Try.ntmps18
    go_wp2_with fail
    refine (HP.out _ HH.out hB).mono ?_
    rintro e w1 ⟨rfl, b1⟩
    have BB1 := Lib.hid b1
    have s1 := b1.size
    have H1 := Lib.hid (HH.out.kept (b1.mono hB))
    clear b1
    go_wp2_with fail
    refine (HP2.out _ H1.out (by omega)).mono ?_
    rintro e w2 ⟨v, rfl, o2, b2⟩
    have HO2 := Lib.hid (o2.base s1)
    have BB2 := Lib.hid (BB1.out.trans (b2.mono s1))
    clear o2 b2
    go_wp2_with fail
    go_ret2
    exact ⟨_, rfl, HO2.out, BB2.out⟩
  | true =>
    rw [hok] at h1
    have HP := Lib.hid h1
    clear h1
    by_cases h32 : p.length = 32
    · have g1 : ((p.length : Int) == 32) = true := by simp; omega
      clear hno hok h32
      go_enter Try.func18, Try.ntmps18
      go_wp2_with fail
      refine (HP.out _ HH.out hB).mono ?_
      rintro e w1 ⟨rfl, b1⟩
      have BB1 := Lib.hid b1
      have s1 := b1.size
      have H1 := Lib.hid (HH.out.kept (b1.mono hB))
      clear b1
      go_wp2_with fail
      refine (HP2.out _ H1.out (by omega)).mono ?_
      rintro e w2 ⟨v, rfl, o2, b2⟩
      have HO2 := Lib.hid (o2.base s1)
      have BB2 := Lib.hid (BB1.out.trans (b2.mono s1))
      clear o2 b2
      go_wp2_with fail
      go_ret2
      exact ⟨_, rfl, HO2.out, BB2.out⟩
    · have g1 : ((p.length : Int) == 32) = false := by simp; omega
      by_cases h0 : k < 0
      · have g2 : decide (k < 0) = true := decide_eq_true h0
        clear hno hok h32 h0
        go_enter Try.func18, Try.ntmps18
        go_wp2_with fail
        refine (HP.out _ HH.out hB).mono ?_
        rintro e w1 ⟨rfl, b1⟩
        have BB1 := Lib.hid b1
        have s1 := b1.size
        have H1 := Lib.hid (HH.out.kept (b1.mono hB))
        clear b1
        go_wp2_with fail
        refine (HP2.out _ H1.out (by omega)).mono ?_
        rintro e w2 ⟨v, rfl, o2, b2⟩
        have HO2 := Lib.hid (o2.base s1)
        have BB2 := Lib.hid (BB1.out.trans (b2.mono s1))
        clear o2 b2
        go_wp2_with fail
        go_ret2
        exact ⟨_, rfl, HO2.out, BB2.out⟩
      · have g2 : decide (k < 0) = false := decide_eq_false h0
        have hgt : k > (p.length : Int) := by
          refine Decidable.byContradiction fun hn => ?_
          obtain ⟨m, rfl⟩ := Int.eq_ofNat_of_zero_le (by omega : 0 ≤ k)
          have := insAt_yes (k := m) hok h32 (by omega)
          rw [hno] at this
          exact absurd this (by simp)
        have g3 : decide (k > (p.length : Int)) = true := decide_eq_true hgt
        clear hno hok h32 h0 hgt
        go_enter Try.func18, Try.ntmps18
        go_wp2_with fail
        refine (HP.out _ HH.out hB).mono ?_
        rintro e w1 ⟨rfl, b1⟩
        have BB1 := Lib.hid b1
        have s1 := b1.size
        have H1 := Lib.hid (HH.out.kept (b1.mono hB))
        clear b1
        go_wp2_with fail
        refine (HP2.out _ H1.out (by omega)).mono ?_
        rintro e w2 ⟨v, rfl, o2, b2⟩
        have HO2 := Lib.hid (o2.base s1)
        have BB2 := Lib.hid (BB1.out.trans (b2.mono s1))
        clear o2 b2
        go_wp2_with fail
        go_ret2
        exact ⟨_, rfl, HO2.out, BB2.out⟩

/-- The program's insertion, whatever is given. -/
theorem pInsertNop_any (B : Nat) (w : World) (g off : Nat) (p : List I4) (cap : Nat) (k : Int) (hl : p.length ≤ 1048576) (hc : p.length ≤ cap) (h : Nums B w (some ⟨g, off, none⟩) (flat p)) (hB : B ≤ w.heap.size) :
    Calls Try.prog 18 #[.slice (some ⟨g, off, none⟩) p.length cap, .int .i64 k] w (ProgSaid (insRes p k) (insAt p k) w) := by
  cases hi : insAt p k with
  | false =>
    have := pInsertNop_no B w g off p cap k hl hi h hB
    rwa [hi] at this
  | true =>
    have hi' := hi
    unfold insAt at hi'
    simp only [Bool.and_eq_true, Bool.not_eq_true', decide_eq_true_eq, decide_eq_false_iff_not] at hi'
    obtain ⟨⟨hok, h32⟩, h0, h1⟩ := hi'
    obtain ⟨m, rfl⟩ := Int.eq_ofNat_of_zero_le h0
    have := pInsertNop_yes B w g off p cap m hc hok h32 (by omega) h hB
    rwa [hi] at this

end Go.Proofs.Ytnehfghffdgceaa
