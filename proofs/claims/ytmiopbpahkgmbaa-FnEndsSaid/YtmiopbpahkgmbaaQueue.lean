/- A queue of numbers that a call owns: it begins anywhere in its block ('work = work[1:]'), and grows at its end. -/
import Derived.Test.YtmiopbpahkgmbaaBools
namespace Go.Proofs.Ytmiopbpahkgmbaa
open Go.RowKit Go

/-- A queue, from block B on. -/
def OwnQ (B : Nat) (w : World) (v : Value) (xs : List Int) : Prop :=
  ∃ (g off cap : Nat) (cur : Array Value), v = .slice (some ⟨g, off, none⟩) xs.length cap ∧ B ≤ g ∧ w.heap[g]? = some (.cells cur 3 (0, 0)) ∧ xs.length ≤ cap ∧ cap ≤ maxLen ∧ off + cap ≤ cur.size ∧ (cur.toList.drop off).take xs.length = xs.map (.int .i64)

theorem OwnQ.form {B : Nat} {w : World} {v : Value} {xs : List Int} (h : OwnQ B w v xs) : ∃ g off cap : Nat, v = .slice (some ⟨g, off, none⟩) xs.length cap ∧ B ≤ g ∧ g < w.heap.size ∧ xs.length ≤ cap := by
  obtain ⟨g, off, cap, cur, e, hb, hg, hc, _⟩ := h
  exact ⟨g, off, cap, e, hb, lt_of_block hg, hc⟩
theorem OwnQ.lt {B : Nat} {w : World} {v : Value} {xs : List Int} (h : OwnQ B w v xs) : ∀ k, v.ownBlock = some k → B ≤ k ∧ k < w.heap.size := by
  intro k hk
  obtain ⟨g, off, cap, rfl, hb, hl, _⟩ := h.form
  cases hk
  exact ⟨hb, hl⟩
theorem OwnQ.grown {B : Nat} {w w' : World} {v : Value} {xs : List Int} {row : Option Nat} (h : OwnQ B w v xs) (hg : w.grownBy w' row) (hne : v.ownBlock ≠ row) : OwnQ B w' v xs := by
  obtain ⟨g, off, cap, cur, rfl, hb, hgg, rest⟩ := h
  refine ⟨g, off, cap, cur, rfl, hb, ?_, rest⟩
  rw [hg.block g (lt_of_block hgg) hne]
  exact hgg
theorem OwnQ.below {B : Nat} {w w' : World} {v : Value} {xs : List Int} (h : OwnQ B w v xs) (hb : Below w.heap.size w w') : OwnQ B w' v xs :=
  h.grown (row := none) ⟨hb.os, hb.tape, hb.output, hb.size, fun k hk _ => hb.block k hk⟩ (by obtain ⟨g, off, cap, rfl, _⟩ := h.form; simp [Value.ownBlock])
theorem OwnQ.alloc {B : Nat} {w : World} {v : Value} {xs : List Int} (h : OwnQ B w v xs) (o : Obj) : OwnQ B (w.alloc o) v xs :=
  h.grown (World.grownBy_alloc w o none) (by obtain ⟨g, off, cap, rfl, _⟩ := h.form; simp [Value.ownBlock])
theorem OwnQ.of_own {B : Nat} {w : World} {v : Value} {xs : List Int} (h : Own B w v xs) (hv : v ≠ .slice none 0 0) : OwnQ B w v xs := by
  rcases h.2 with ⟨h1, _⟩ | ⟨g, cap, cur, h1, hb, hg, hn, hm, hs, ht⟩
  · exact absurd h1 hv
  · rw [Nat.mul_one] at hs ht
    exact ⟨g, 0, cap, cur, h1, hb, hg, hn, hm, by omega, by rw [List.drop_zero]; exact ht⟩
theorem OwnQ.head {B : Nat} {w : World} {g off n cap : Nat} {x : Int} {xs : List Int} (h : OwnQ B w (.slice (some ⟨g, off, none⟩) n cap) (x :: xs)) : w.cell? ⟨g, off, none⟩ = some (.int .i64 x) := by
  obtain ⟨g', off', cap', cur, e, _, hg, _, _, _, ht⟩ := h
  simp only [Value.slice.injEq, Option.some.injEq, Addr.mk.injEq, and_true] at e
  obtain ⟨⟨rfl, rfl⟩, _, rfl⟩ := e
  rw [cell_of_row w g off cur 3 (0, 0) hg]
  have := congrArg (fun l => l[0]?) ht
  simpa using this
/-- Without its head. -/
theorem OwnQ.tail {B : Nat} {w : World} {g off off' n cap : Nat} {x : Int} {xs : List Int} (h : OwnQ B w (.slice (some ⟨g, off, none⟩) n cap) (x :: xs)) (ho : off' = if cap = 1 then off else off + 1) : OwnQ B w (.slice (some ⟨g, off', none⟩) xs.length (cap - 1)) xs := by
  obtain ⟨g', off2, cap', cur, e, hb, hg, hc, hm, hs, ht⟩ := h
  simp only [Value.slice.injEq, Option.some.injEq, Addr.mk.injEq, and_true] at e
  obtain ⟨⟨rfl, rfl⟩, rfl, rfl⟩ := e
  rw [List.length_cons] at hc ht
  by_cases h1 : cap = 1
  · rw [if_pos h1] at ho
    subst ho
    have hx : xs = [] := List.eq_nil_of_length_eq_zero (by omega)
    subst hx
    exact ⟨g, off', cap - 1, cur, rfl, hb, hg, by simp, by omega, by omega, by simp⟩
  · rw [if_neg h1] at ho
    subst ho
    refine ⟨g, off + 1, cap - 1, cur, rfl, hb, hg, by omega, by omega, by omega, ?_⟩
    have h2 := congrArg (List.drop 1) ht
    rw [List.drop_take, List.drop_drop, Nat.add_sub_cancel] at h2
    simpa using h2

section
variable {P : Program} (w : World)

theorem run_append_roomQ (t ty e : TypeId) (i : TypeInfo) (ht : P.underlying t = some (.slice e)) (hi : P.info? e = some i) (h1i : i.size = 1)
    (g off sLen sCap : Nat) (cur : Array Value) (hg : w.heap[g]? = some (.cells cur e (0, 0)))
    (a : Addr) (m c : Nat) (news : List Value) (hl : news.length = m) (hnews : ∀ j u, news[j]? = some u → w.cell? (a.add j) = some u) (h1 : ∀ u ∈ news, u.oneCell' = true)
    (hroom : sLen + m ≤ sCap) (hfit : off + sLen + m ≤ cur.size) :
    (Builtin.append_ #[t, t] ty #[.slice (some ⟨g, off, none⟩) sLen sCap, .slice (some a) m c]).run P w =
      .ok (.slice (some ⟨g, off, none⟩) (sLen + m) sCap) (w.setRow g (cur.toList.take (off + sLen) ++ news ++ cur.toList.drop (off + sLen + news.length)).toArray) := by
  have hf := run_firstCells_some (P := P) w 1 m a m c news (by omega) hnews
  have hst := run_storeCells_at P g (off + sLen) e news 0 cur w hg (by omega) h1
  simp only [Nat.add_zero] at hst
  simp [Builtin.append_, run_underlying ht, sizeOf, typeInfo, hi, h1i, Builtin.lenOf, hroom, hf, add_off, hst]

theorem run_append_q (B : Nat) (t ty : TypeId) (i : TypeInfo) (ht : P.underlying t = some (.slice 3)) (hi : P.info? 3 = some i) (hz : i.zero = some (.int .i64 0)) (h1i : i.size = 1) (hby : i.bytes = 8)
    (v vs : Value) (xs ys : List Int) (hown : OwnQ B w v xs) (B2 : Nat) (hys : Own B2 w vs ys) (hlen : xs.length + ys.length ≤ 1000000) (hB : B ≤ w.heap.size) :
    ∃ v' w', (Builtin.append_ #[t, t] ty #[v, vs]).run P w = .ok v' w' ∧ OwnQ B w' v' (xs ++ ys) ∧ w.grownBy w' v.ownBlock := by
  obtain ⟨g, off, cap, cur, rfl, hb, hg, hc, hm, hs, htk⟩ := hown
  obtain ⟨asl, c, rfl⟩ := hys.form
  cases asl with
  | none =>
    have hy : ys = [] := by
      rcases hys.2 with ⟨_, h2⟩ | ⟨g', c', cur', h2, _⟩
      · exact List.eq_nil_of_length_eq_zero h2
      · cases h2
    subst hy
    refine ⟨.slice (some ⟨g, off, none⟩) xs.length cap, w, ?_, ⟨g, off, cap, cur, by simp, hb, hg, by simpa using hc, hm, hs, by simpa using htk⟩, ⟨rfl, rfl, rfl, Nat.le_refl _, fun _ _ _ => rfl⟩⟩
    simp [Builtin.append_, run_underlying ht, sizeOf, typeInfo, hi, Builtin.lenOf, Builtin.firstCells, hc, storeCells]
  | some ad =>
    have hnews : ∀ j u, (ys.map (Value.int .i64))[j]? = some u → w.cell? (ad.add j) = some u := by
      rcases hys.2 with ⟨h2, _⟩ | ⟨g', c', cur', h2, _⟩
      · cases h2
      · simp only [Value.slice.injEq, Option.some.injEq] at h2
        obtain ⟨rfl, _, rfl⟩ := h2
        exact World.ownsRow.cells (g := g') hys rfl
    have h1 : ∀ u ∈ ys.map (Value.int .i64), u.oneCell' = true := by intro u hu; obtain ⟨x, _, rfl⟩ := List.mem_map.1 hu; rfl
    have hll : (cur.toList.take (off + xs.length)).length = off + xs.length := by have e : cur.toList.length = cur.size := Array.length_toList; rw [List.length_take]; omega
    by_cases hroom : xs.length + ys.length ≤ cap
    · have hr := run_append_roomQ (P := P) w t ty 3 i ht hi h1i g off xs.length cap cur hg ad ys.length c (ys.map (.int .i64)) (by simp) hnews h1 hroom (by omega)
      refine ⟨_, _, hr, ⟨g, off, cap, _, by rw [List.length_append], hb, setRow_heap w g cur _ 3 _ hg, by rw [List.length_append]; exact hroom, hm, ?_, ?_⟩, ⟨rfl, rfl, rfl, by simp, fun k _ hk => setRow_other w g k _ (fun e => hk (by simp [Value.ownBlock, e]))⟩⟩
      · simp only [List.size_toArray, List.length_append, hll, List.length_drop, Array.length_toList, List.length_map]
        omega
      · rw [List.length_append, List.map_append, ← htk]
        rw [List.append_assoc, List.drop_append_of_le_length (by omega), List.drop_take, Nat.add_sub_cancel_left]
        rw [← List.append_assoc, List.take_append_of_le_length (by simp; omega), List.take_of_length_le (by simp; omega)]
    · have hlen2 : ((cur.toList.drop off).take xs.length).length = xs.length := by rw [htk, List.length_map]
      have holds : ∀ j u, (xs.map (Value.int .i64))[j]? = some u → w.cell? ((⟨g, off, none⟩ : Addr).add j) = some u := by
        intro j u hu
        rw [← htk, List.getElem?_take] at hu
        split at hu
        · rw [List.getElem?_drop] at hu
          rw [add_off, cell_of_row w g (off + j) cur 3 (0, 0) hg]
          simpa using hu
        · cases hu
      have hr := run_append_grow (P := P) w t ty 3 i _ ht hi hz ⟨g, off, none⟩ xs.length cap (xs.map (.int .i64)) (by simp [h1i]) holds ad ys.length c (ys.map (.int .i64)) (by simp [h1i]) hnews (by omega) (by omega) (growslice_fits (by omega) (by rw [hby]; omega))
      have hge := grownCap_ge w (xs.length + ys.length) cap 3
      have hcm : grownCap w (xs.length + ys.length) cap 3 ≤ maxLen := grownCap_le_maxLen w _ cap _ (by unfold maxLen; omega)
      refine ⟨_, _, hr, ⟨w.heap.size, 0, _, _, by rw [List.length_append], hB, heap_alloc_new w.drew _, by rw [List.length_append]; exact hge, hcm, ?_, ?_⟩, ⟨rfl, rfl, rfl, by simp, fun k hk _ => heap_alloc_old w.drew _ hk⟩⟩
      · simp only [Array.size_append, List.size_toArray, size_zeroCells, List.length_map, Nat.zero_add]
        show grownCap w (xs.length + ys.length) cap 3 ≤ xs.length + ys.length + (grownCap w (xs.length + ys.length) cap 3 - (xs.length + ys.length)) * 1
        omega
      · rw [List.drop_zero, Array.toList_append, Array.toList_append, ← List.map_append]
        rw [List.take_append_of_le_length (by simp)]
        rw [List.take_of_length_le (by simp)]

theorem wpList_append_q {ops : Array Oper} {rest : List Oper} {o : Oper} {a : Act} {Q : Exit → Act → World → Prop} (hgd : o.guard = none) (s x : Operand)
    (ho : o.op = .call { callee := .builtin .append, args := #[s, x], argTypes := #[25, 25] })
    (B : Nat) (i : TypeInfo) (hi : Try.prog.info? 3 = some i) (hz : i.zero = some (.int .i64 0)) (h1i : i.size = 1) (hby : i.bytes = 8)
    (v vs : Value) (xs ys : List Int) (hs : a.eval s = v) (hown : OwnQ B w v xs) (hx : a.eval x = vs) (B2 : Nat) (hys : Own B2 w vs ys) (hlen : xs.length + ys.length ≤ 1000000) (hB : B ≤ w.heap.size)
    (h : ∀ v' w', OwnQ B w' v' (xs ++ ys) → w.grownBy w' v.ownBlock → wpList Try.prog ops Q rest (a.put o.dst v') w') : wpList Try.prog ops Q (o :: rest) a w := by
  refine wpList_plain hgd fun K hK => ?_
  obtain ⟨v', w', hr, h2, h3⟩ := run_append_q (P := Try.prog) w B 25 o.type i Try.underlying25 hi hz h1i hby v vs xs ys hown B2 hys hlen hB
  unfold Oper.wp execOp
  simp only [ho, resolve, invoke, builtin, Sem.run_bind, Sem.run_pure, Result.andThen_ok, List.map_toArray, List.map_cons, List.map_nil, hs, hx, hr]
  exact hK _ _ (h v' w' h2 h3)

end

end Go.Proofs.Ytmiopbpahkgmbaa
