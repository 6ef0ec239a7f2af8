/- Lanes: an instruction changes only the register that it writes, and depends only on those that it reads. No program is named here. -/
import Derived.Test.YtmiopbpahkgmbaaLaneR
import Derived.Test.YtmiopbpahkgmbaaHas
namespace Go.Proofs.Ytmiopbpahkgmbaa
open Go.RowKit Go

theorem insOk_more {o a b c s : Int} (hs : s ≤ 32) (h : insOk o a b c s = true) : insOk o a b c 32 = true := by
  unfold insOk at h ⊢
  split at h
  · rename_i h0
    rw [if_pos ⟨rfl, h0.2⟩]
    simp only [Bool.and_eq_true] at h ⊢
    refine ⟨⟨h.1.1, ?_⟩, h.2⟩
    have hb := h.1.2
    unfold chB at hb ⊢
    split
    · rename_i h1; rw [if_pos h1] at hb; exact hb
    · rename_i h1
      rw [if_neg h1] at hb
      split
      · rename_i h2
        rw [if_pos h2] at hb
        have := inO_iff.1 hb
        exact inO_yes this.1 (by omega)
      · rename_i h2; rw [if_neg h2] at hb; exact hb
  · cases h
theorem app_valid {x : I4} {t s : Int} {rs : List Int} (hs : s ≤ 32) (hx : insOk x.o x.a x.b x.c s = true) (ht : 0 ≤ t ∧ t ≤ 23) (hl : rs.length = 4) (hw : rs.all isW = true) : appR x t rs = applyR x t rs := by
  unfold appR appOk regsOk
  rw [insOk_more hs hx, hw, decide_eq_true hl, decide_eq_true ht]
  rfl
theorem rg_nat {rs : List Int} {i : Nat} (h : i < rs.length) : rg rs (i : Int) = rs[i] := by
  unfold rg
  rw [Int.toNat_natCast, List.getD_eq_getElem?_getD, List.getElem?_eq_getElem h]
  rfl
theorem wrt_val {o a : Int} (h : 1 ≤ o ∧ o ≤ 9) : wrt o a = a := by unfold wrt; rw [if_pos (.inl h)]
theorem valR_op {o b c t : Int} {rs : List Int} {v : Int} (h : valR o b c t rs = some v) : 1 ≤ o ∧ o ≤ 9 := by
  unfold valR at h
  repeat' split at h
  all_goals first | omega | cases h

theorem applied_keep {x : I4} {t s : Int} {rs : List Int} (hx : insOk x.o x.a x.b x.c s = true) (hl : rs.length = 4) (i : Nat) (h4 : i < 4) (hne : ¬ (i : Int) = wrt x.o x.a) : rg (applyR x t rs) (i : Int) = rg rs (i : Int) := by
  unfold applyR
  split
  · rename_i v hv
    have ho := valR_op hv
    rw [wrt_val ho] at hne
    have ha := (ok_fields hx).1 ho.1 ho.2
    rw [rg_nat (by rw [List.length_set]; omega), rg_nat (by omega), List.getElem_set]
    rw [if_neg (by omega)]
  · rfl

theorem raw_rng {o a b c s : Int} (hx : insOk o a b c s = true) (hl : inO o 0 12 = true) : ∀ j ∈ rawR o a b c, 0 ≤ j ∧ j ≤ 3 := by
  obtain ⟨fa, fz, _, fb, fc⟩ := ok_fields hx
  have ho := inO_iff.1 hl
  intro j hj
  unfold rawR at hj
  split at hj
  · rename_i h
    simp at hj
    subst hj
    exact fb (by omega) (by omega)
  split at hj
  · rename_i h
    simp at hj
    rcases hj with rfl | rfl
    · exact fb (by omega) (by omega)
    · exact fc (by omega) (by omega)
  split at hj
  · simp at hj
    rcases hj with rfl | rfl | rfl
    · exact fa (by omega) (by omega)
    · exact fb (by omega) (by omega)
    · exact fc (by omega) (by omega)
  split at hj
  · rename_i h
    simp at hj
    subst hj
    exact fz h
  split at hj
  · omega
  · cases hj

theorem valR_same {o a b c t : Int} {rs qs : List Int} (hr : ∀ j, j ∈ rawR o a b c → rg rs j = rg qs j) : valR o b c t rs = valR o b c t qs := by
  have hb : o = 2 → rg rs b = rg qs b := fun h => hr b (by unfold rawR; rw [if_pos (.inl h)]; simp)
  have hbc : 3 ≤ o ∧ o ≤ 7 → rg rs b = rg qs b ∧ rg rs c = rg qs c := fun h => by
    have e : rawR o a b c = [b, c] := by unfold rawR; rw [if_neg (by omega), if_pos h]
    exact ⟨hr b (by rw [e]; simp), hr c (by rw [e]; simp)⟩
  have h9 : o = 9 → rg rs b = rg qs b ∧ rg rs c = rg qs c := fun h => by
    have e : rawR o a b c = [a, b, c] := by unfold rawR; rw [if_neg (by omega), if_neg (by omega), if_pos h]
    exact ⟨hr b (by rw [e]; simp), hr c (by rw [e]; simp)⟩
  unfold valR
  split
  · rfl
  split
  · rw [hb (by assumption)]
  split
  · rw [(hbc (by omega)).1, (hbc (by omega)).2]
  split
  · rw [(hbc (by omega)).1, (hbc (by omega)).2]
  split
  · rw [(hbc (by omega)).1, (hbc (by omega)).2]
  split
  · rw [(hbc (by omega)).1, (hbc (by omega)).2]
  split
  · rw [(hbc (by omega)).1, (hbc (by omega)).2]
  split
  · rfl
  split
  · rw [(h9 (by assumption)).1, (h9 (by assumption)).2]
  · rfl

theorem applied_same {x : I4} {t s : Int} {rs qs : List Int} (hx : insOk x.o x.a x.b x.c s = true) (hloc : locI x = true) (h1 : rs.length = 4) (h2 : qs.length = 4) (hr : ∀ j, j ∈ rawR x.o x.a x.b x.c → rg rs j = rg qs j) (i : Nat) (hi : (i : Int) = wrt x.o x.a) :
    rg (applyR x t rs) (i : Int) = rg (applyR x t qs) (i : Int) := by
  have hlo := inO_iff.1 hloc
  have ho : 1 ≤ x.o ∧ x.o ≤ 9 := by
    unfold wrt at hi
    split at hi <;> omega
  have ha := (ok_fields hx).1 ho.1 ho.2
  rw [wrt_val ho] at hi
  have hv := valR_same (t := t) hr
  unfold applyR
  rw [hv]
  cases hq : valR x.o x.b x.c t qs with
  | some v =>
    show rg (rs.set x.a.toNat v) (i : Int) = rg (qs.set x.a.toNat v) (i : Int)
    rw [rg_nat (by rw [List.length_set]; omega), rg_nat (by rw [List.length_set]; omega), List.getElem_set, List.getElem_set, if_pos (by omega), if_pos (by omega)]
  | none =>
    show rg rs (i : Int) = rg qs (i : Int)
    rw [hi]
    refine hr x.a ?_
    have h9 : x.o = 9 := by
      unfold valR at hq
      repeat' split at hq
      all_goals first | omega | cases hq
    unfold rawR
    rw [if_neg (by omega), if_neg (by omega), if_pos h9]
    simp

/-- The registers, those that are not read replaced below j. -/
def mixL (r rs xs : List Int) (j : Nat) : List Int := (List.range 4).map fun i => if i < j ∧ inL r (i : Int) = false then rg xs (i : Int) else rg rs (i : Int)
theorem mixL_len (r rs xs : List Int) (j : Nat) : (mixL r rs xs j).length = 4 := by unfold mixL; simp
theorem mixL_at (r rs xs : List Int) (j i : Nat) (h : i < 4) : (mixL r rs xs j)[i]'(by rw [mixL_len]; exact h) = if i < j ∧ inL r (i : Int) = false then rg xs (i : Int) else rg rs (i : Int) := by unfold mixL; simp
theorem mixL_zero {r rs xs : List Int} (hl : rs.length = 4) : mixL r rs xs 0 = rs := by
  apply List.ext_getElem
  · rw [mixL_len, hl]
  · intro i h1 h2
    rw [mixL_at _ _ _ _ _ (by omega), if_neg (by omega), rg_nat h2]
theorem mixL_yes {r rs xs : List Int} {j : Nat} (h : inL r (j : Int) = true) : mixL r rs xs (j + 1) = mixL r rs xs j := by
  apply List.ext_getElem
  · rw [mixL_len, mixL_len]
  · intro i h1 h2
    rw [mixL_len] at h1
    rw [mixL_at _ _ _ _ _ h1, mixL_at _ _ _ _ _ h1]
    by_cases hij : i = j
    · subst hij
      rw [if_neg (by rw [h]; simp), if_neg (by omega)]
    · by_cases hlt : i < j ∧ inL r (i : Int) = false
      · rw [if_pos ⟨by omega, hlt.2⟩, if_pos hlt]
      · rw [if_neg (fun hh => hlt ⟨by omega, hh.2⟩), if_neg hlt]
theorem mixL_no {r rs xs : List Int} {j : Nat} (h : inL r (j : Int) = false) : mixL r rs xs (j + 1) = (mixL r rs xs j).set j (rg xs (j : Int)) := by
  apply List.ext_getElem
  · rw [List.length_set, mixL_len, mixL_len]
  · intro i h1 h2
    rw [mixL_len] at h1
    rw [mixL_at _ _ _ _ _ h1, List.getElem_set]
    by_cases hij : j = i
    · subst hij
      rw [if_pos ⟨by omega, h⟩, if_pos rfl]
    · rw [if_neg hij, mixL_at _ _ _ _ _ h1]
      by_cases hlt : i < j ∧ inL r (i : Int) = false
      · rw [if_pos ⟨by omega, hlt.2⟩, if_pos hlt]
      · rw [if_neg (fun hh => hlt ⟨by omega, hh.2⟩), if_neg hlt]
theorem mixL_words {r rs xs : List Int} {j : Nat} (h1 : rs.all isW = true) (h2 : ∀ i : Nat, i < 4 → isW (rg xs (i : Int)) = true) : (mixL r rs xs j).all isW = true := by
  rw [List.all_eq_true]
  intro y hy
  obtain ⟨i, hi, rfl⟩ := List.getElem_of_mem hy
  rw [mixL_len] at hi
  rw [mixL_at _ _ _ _ _ hi]
  split
  · exact h2 i hi
  · exact rg_word h1 _
theorem mixL_read {r rs xs : List Int} {j : Int} (h0 : 0 ≤ j ∧ j ≤ 3) (h : inL r j = true) : rg rs j = rg (mixL r rs xs 4) j := by
  obtain ⟨i, rfl⟩ := Int.eq_ofNat_of_zero_le h0.1
  rw [rg_nat (rs := mixL r rs xs 4) (by rw [mixL_len]; omega), mixL_at _ _ _ _ _ (by omega), if_neg (by rw [h]; simp)]

/-- What FnApplied asks of one instruction. -/
theorem applied {x : I4} {t s : Int} {rs xs : List Int} (hx : insOk x.o x.a x.b x.c s = true) (hloc : locI x = true) (hl : rs.length = 4) (i : Nat) (h4 : i < 4) :
    (¬ (i : Int) = wrt x.o x.a → rg (applyR x t rs) (i : Int) = rg rs (i : Int) ∧ rg (applyR x t (mixL (ascOf (rawR x.o x.a x.b x.c)) rs xs 4)) (i : Int) = rg (mixL (ascOf (rawR x.o x.a x.b x.c)) rs xs 4) (i : Int)) ∧
    ((i : Int) = wrt x.o x.a → rg (applyR x t rs) (i : Int) = rg (applyR x t (mixL (ascOf (rawR x.o x.a x.b x.c)) rs xs 4)) (i : Int)) :=
  ⟨fun h => ⟨applied_keep hx hl i h4 h, applied_keep hx (mixL_len _ _ _ _) i h4 h⟩,
    fun h => applied_same hx hloc hl (mixL_len _ _ _ _) (fun _ hj => mixL_read (raw_rng hx hloc _ hj) (List.contains_iff_mem.2 (((ascOf_asc _).2 _).2 hj))) i h⟩

end Go.Proofs.Ytmiopbpahkgmbaa
