/- 'copy' between rows of instructions, the row written one that the call owns: as a law for the walk, and as a step of a region that draws its order. -/
import Derived.Test.YtnehfghffdgceaaProgs
import Derived.Laws.CopyRow
import Derived.Laws.IdiomCopy
import Derived.Deep.RegionLaw
namespace Go.Proofs.Ytnehfghffdgceaa
open Go.RowKit Go

/-- cs laid over xs from place off on. -/
def spl (xs : List Int) (off : Nat) (cs : List Int) : List Int := xs.take off ++ (cs ++ xs.drop (off + cs.length))

theorem run_copy_none4 {P : Program} (w : World) (dT sT ty elem : TypeId) (d a : Option Addr) (dLen dCap sLen sCap : Nat) (hu : P.underlying dT = some (.slice elem)) (hs : (P.info? elem).map (·.size) = some 4) (hn : Nat.min sLen dLen = 0) :
    (Builtin.copy_ #[dT, sT] ty #[.slice d dLen dCap, .slice a sLen sCap]).run P w = .ok (goInt 0) w := by
  cases hq : P.info? elem with
  | none => simp [hq] at hs
  | some i =>
    have hl : ∀ (x : Addr), (loadCells x 0).run P w = .ok #[] w := fun x => by simpa using run_loadCells_list (P := P) w x [] (by simp)
    cases d <;> cases a <;> simp [Builtin.copy_, run_underlying hu, Builtin.lenOf, Builtin.firstCells, sizeOf, typeInfo, hq, hn, storeCells, hl]

theorem run_copy_row4 {P : Program} (w : World) (dT sT ty elem : TypeId) (g o dLen dCap : Nat) (a : Addr) (sLen sCap : Nat) (cur : Array Value) (t : TypeId) (cs : List Value)
    (hu : P.underlying dT = some (.slice elem)) (hs : (P.info? elem).map (·.size) = some 4)
    (hg : w.heap[g]? = some (.cells cur t (0, 0))) (hn : cs.length = Nat.min sLen dLen * 4)
    (hsrc : ∀ j v, cs[j]? = some v → w.cell? (a.add j) = some v) (hfit : o + cs.length ≤ cur.size) (h1 : ∀ v ∈ cs, v.oneCell' = true) :
    (Builtin.copy_ #[dT, sT] ty #[.slice (some ⟨g, o, none⟩) dLen dCap, .slice (some a) sLen sCap]).run P w =
      .ok (goInt (Nat.min sLen dLen)) (w.setRow g (cur.toList.take o ++ cs ++ cur.toList.drop (o + cs.length)).toArray) := by
  have hl := run_loadCells_list (P := P) w a cs hsrc
  have hst := run_storeCells_at P g o t cs 0 cur w hg (by simpa using hfit) h1
  cases hq : P.info? elem with
  | none => simp [hq] at hs
  | some i =>
    have hi : i.size = 4 := by simpa [hq] using hs
    simp [Builtin.copy_, run_underlying hu, Builtin.lenOf, Builtin.firstCells, sizeOf, typeInfo, hq, hi, ← hn, hl, hst]

theorem run_copy_ownP {P : Program} (w : World) (dT sT ty elem : TypeId) (hu : P.underlying dT = some (.slice elem)) (hs : (P.info? elem).map (·.size) = some 4)
    (dp sp : Option Addr) (dLen dCap sLen sCap base g N off : Nat) (xs cs : List Int) (hown : OwnP base w (.slice (some ⟨g, 0, none⟩) N N) N xs) (hn : cs.length = Nat.min sLen dLen * 4)
    (hpos : 0 < cs.length → dp = some ⟨g, off, none⟩ ∧ ∃ ad, sp = some ad ∧ ∀ j v, (cs.map (Value.int .i64))[j]? = some v → w.cell? (ad.add j) = some v) (hfit : off + cs.length ≤ xs.length) :
    ∃ w', (Builtin.copy_ #[dT, sT] ty #[.slice dp dLen dCap, .slice sp sLen sCap]).run P w = .ok (goInt (Nat.min sLen dLen)) w' ∧ OwnP base w' (.slice (some ⟨g, 0, none⟩) N N) N (spl xs off cs) ∧ w.grownBy w' (some g) := by
  by_cases h0 : cs.length = 0
  · have hmin : Nat.min sLen dLen = 0 := by omega
    obtain rfl : cs = [] := List.eq_nil_of_length_eq_zero h0
    refine ⟨w, by rw [run_copy_none4 w dT sT ty elem dp sp dLen dCap sLen sCap hu hs hmin, hmin]; rfl, ?_, grownBy_refl _ _⟩
    have e : spl xs off [] = xs := by unfold spl; simp
    rw [e]
    exact hown
  · obtain ⟨rfl, ad, rfl, hsrc⟩ := hpos (by omega)
    have hl := hown.len
    rcases hown.2 with ⟨h', _⟩ | ⟨g', cap', cur, h', hb, hg, hnc, hcm, hcs, htake⟩
    · simp at h'
    · simp only [Value.slice.injEq, Option.some.injEq, Addr.mk.injEq, and_true, true_and] at h'
      obtain ⟨rfl, rfl⟩ := h'
      have hcur : cur.toList = xs.map (.int .i64) := by
        rw [← htake, List.take_of_length_le (by rw [Array.length_toList, hcs]; exact Nat.le_refl _)]
      have hr := run_copy_row4 (P := P) w dT sT ty elem g off dLen dCap ad sLen sCap cur _ (cs.map (.int .i64)) hu hs hg (by rw [List.length_map]; exact hn) hsrc (by rw [List.length_map, hcs]; omega) (ints_oneCell _ _)
      have hsp : cur.toList.take off ++ (cs.map (Value.int .i64)) ++ cur.toList.drop (off + (cs.map (Value.int .i64)).length) = (spl xs off cs).map (.int .i64) := by
        rw [hcur]
        unfold spl
        simp only [List.length_map, List.map_append, List.map_take, List.map_drop, List.append_assoc]
      rw [hsp] at hr
      have hlen : (spl xs off cs).length = N * 4 := by
        unfold spl
        simp only [List.length_append, List.length_take, List.length_drop]
        omega
      refine ⟨_, hr, ⟨by rw [List.length_map]; exact hlen, .inr ⟨g, N, _, rfl, hb, setRow_heap w g cur _ _ _ hg, Nat.le_refl _, hcm, by simp [hlen], ?_⟩⟩, ⟨rfl, rfl, rfl, by simp, fun k _ hk => setRow_other w g k _ (fun e => hk (by simp [e]))⟩⟩
      rw [List.take_of_length_le (by simp [hlen])]

theorem wpList_copy_ownP {P : Program} {w : World} {ops : Array Oper} {rest : List Oper} {o : Oper} {a : Act} {Q : Exit → Act → World → Prop} (hgd : o.guard = none) (d s : Operand) (dT sT : TypeId)
    (ho : o.op = .call { callee := .builtin .copy, args := #[d, s], argTypes := #[dT, sT] }) (elem : TypeId) (hu : P.underlying dT = some (.slice elem)) (hsz : (P.info? elem).map (·.size) = some 4)
    (dp sp : Option Addr) (dLen dCap sLen sCap : Nat) (hd : a.eval d = .slice dp dLen dCap) (hs : a.eval s = .slice sp sLen sCap)
    (base g N off : Nat) (xs cs : List Int) (hown : OwnP base w (.slice (some ⟨g, 0, none⟩) N N) N xs) (hn : cs.length = Nat.min sLen dLen * 4)
    (hpos : 0 < cs.length → dp = some ⟨g, off, none⟩ ∧ ∃ ad, sp = some ad ∧ ∀ j v, (cs.map (Value.int .i64))[j]? = some v → w.cell? (ad.add j) = some v) (hfit : off + cs.length ≤ xs.length)
    (h : ∀ w', OwnP base w' (.slice (some ⟨g, 0, none⟩) N N) N (spl xs off cs) → w.grownBy w' (some g) → wpList P ops Q rest (a.put o.dst (goInt (Nat.min sLen dLen))) w') : wpList P ops Q (o :: rest) a w := by
  refine wpList_plain hgd fun K hK => ?_
  obtain ⟨w', hrun, r1, r2⟩ := run_copy_ownP (P := P) w dT sT o.type elem hu hsz dp sp dLen dCap sLen sCap base g N off xs cs hown hn hpos hfit
  unfold Oper.wp
  simp [execOp, ho, resolve, invoke, builtin, hd, hs, hrun, Result.andThen]
  exact hK _ _ (h w' r1 r2)

theorem step_copy_ownP {P : Program} {ops : Array Oper} {o : Oper} {a : Act} {w : World} {K : Act → World → Prop} {Q : Exit → Act → World → Prop} {E : Prop} (hgd : o.guard = none) (d s : Operand) (dT sT : TypeId)
    (ho : o.op = .call { callee := .builtin .copy, args := #[d, s], argTypes := #[dT, sT] }) (elem : TypeId) (hu : P.underlying dT = some (.slice elem)) (hsz : (P.info? elem).map (·.size) = some 4)
    (dp sp : Option Addr) (dLen dCap sLen sCap : Nat) (hd : a.eval d = .slice dp dLen dCap) (hs : a.eval s = .slice sp sLen sCap)
    (base g N off : Nat) (xs cs : List Int) (hown : OwnP base w (.slice (some ⟨g, 0, none⟩) N N) N xs) (hn : cs.length = Nat.min sLen dLen * 4)
    (hpos : 0 < cs.length → dp = some ⟨g, off, none⟩ ∧ ∃ ad, sp = some ad ∧ ∀ j v, (cs.map (Value.int .i64))[j]? = some v → w.cell? (ad.add j) = some v) (hfit : off + cs.length ≤ xs.length)
    (h : ∀ w', Hid (OwnP base w' (.slice (some ⟨g, 0, none⟩) N N) N (spl xs off cs)) → Hid (w.grownBy w' (some g)) → K (a.put o.dst (goInt (Nat.min sLen dLen))) w') :
    if Region.wanted o (yielded ops a.tmps) = true then Oper.wp P o a w K Q else E := by
  have hw : Region.wanted o (yielded ops a.tmps) = true := by simp [Region.wanted, hgd]
  rw [if_pos hw]
  obtain ⟨w', hrun, r1, r2⟩ := run_copy_ownP (P := P) w dT sT o.type elem hu hsz dp sp dLen dCap sLen sCap base g N off xs cs hown hn hpos hfit
  unfold Oper.wp
  simp [execOp, ho, resolve, invoke, builtin, hd, hs, hrun, Result.andThen]
  exact h w' r1 r2

end Go.Proofs.Ytnehfghffdgceaa
