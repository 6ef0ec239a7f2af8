/- The model's insertion of a number into an ascending list (l04Put): plain words, and its contract. -/
import Derived.Test.YtmiopbpahkgmbaaInts
namespace Go.Proofs.Ytmiopbpahkgmbaa
open Go.RowKit Go

/-- From place k down: how many numbers stand before the first of those at the end that are greater than n. -/
def cutI (n : Int) (xs : List Int) : Nat → Nat
  | 0 => 0
  | k + 1 => if n < xs.getD k 0 then cutI n xs k else k + 1
theorem cutI_le (n : Int) (xs : List Int) (k : Nat) : cutI n xs k ≤ k := by
  induction k with
  | zero => exact Nat.le_refl _
  | succ k ih => unfold cutI; split <;> omega
/-- The list with n in it. -/
def putI (xs : List Int) (n : Int) : List Int :=
  if 0 < cutI n xs xs.length ∧ xs.getD (cutI n xs xs.length - 1) 0 = n then xs else xs.take (cutI n xs xs.length) ++ [n] ++ xs.drop (cutI n xs xs.length)

theorem getD_at {xs : List Int} {k : Nat} (h : k < xs.length) : xs.getD k 0 = xs[k] := by
  rw [List.getD_eq_getElem?_getD, List.getElem?_eq_getElem h]; rfl

/-- What l04Put leaves. -/
def PutSaid (ys : List Int) (base : Nat) (w : World) (e : Ending) (w' : World) : Prop :=
  ∃ (g cap : Nat), e = .returned (.slice (some ⟨g, 0, none⟩) ys.length cap) ∧ Own base w' (.slice (some ⟨g, 0, none⟩) ys.length cap) ys ∧ Below w.heap.size w w'

theorem add_off (g i j : Nat) : (⟨g, i, none⟩ : Addr).add j = ⟨g, i + j, none⟩ := by unfold Addr.add; split <;> simp_all

/-- What a part of an owned row holds, cell by cell. -/
theorem Own.part {B : Nat} {w : World} {g n cap : Nat} {xs : List Int} (h : Own B w (.slice (some ⟨g, 0, none⟩) n cap) xs) (i m : Nat) (hm : i + m ≤ xs.length) :
    ∀ j u, (((xs.drop i).take m).map (Value.int .i64))[j]? = some u → w.cell? ((⟨g, i, none⟩ : Addr).add j) = some u := by
  intro j u hu
  rw [List.getElem?_map] at hu
  have hj : j < m := by
    rcases Nat.lt_or_ge j m with h | h
    · exact h
    · rw [List.getElem?_eq_none (by rw [List.length_take]; omega)] at hu; simp at hu
  obtain ⟨g', hg', _, _, hc⟩ := h.cell (i + j) (by omega)
  obtain rfl : g = g' := by injection hg' with e; injection e
  rw [List.getElem?_take_of_lt hj, List.getElem?_drop, List.getElem?_eq_getElem (by omega)] at hu
  rw [add_off, hc]
  simpa using hu

theorem Own.grown {B : Nat} {w w' : World} {v : Value} {xs : List Int} {row : Option Nat} (h : Own B w v xs) (hg : w.grownBy w' row) (hne : ∀ k, row = some k → w.heap.size ≤ k ∨ ∀ c, v.ownBlock = some c → c ≠ k) : Own B w' v xs :=
  World.ownsRow.kept h hg (by
    cases hv : v.ownBlock with
    | none => exact .inl rfl
    | some c =>
      refine .inr fun e => ?_
      have hlt := (World.ownsRow.lt h c hv).2
      rcases hne c e.symm with h1 | h1
      · omega
      · exact h1 c hv rfl)

theorem Own.room {B : Nat} {w : World} {g n cap : Nat} {xs : List Int} (h : Own B w (.slice (some ⟨g, 0, none⟩) n cap) xs) : xs.length ≤ cap ∧ cap ≤ maxLen := by
  rcases h.2 with ⟨h1, _⟩ | ⟨g', c, cur, h1, _, _, h2, h3, _⟩
  · cases h1
  · simp only [Value.slice.injEq] at h1
    obtain ⟨_, rfl, rfl⟩ := h1
    exact ⟨h2, h3⟩

/-- Behind the last append: the row, whole. -/
theorem put_last {base B N : Nat} {w3 : World} {v3 : Value} {ys : List Int} {us : List Value} (hb : base ≤ B) (h : w3.ownsRow B 3 1 v3 N us) (hN : N = ys.length) (hus : us = ys.map (.int .i64)) (h0 : 0 < ys.length) :
    ∃ g cap, v3 = .slice (some ⟨g, 0, none⟩) ys.length cap ∧ Own base w3 (.slice (some ⟨g, 0, none⟩) ys.length cap) ys := by
  subst hN hus
  rcases h.2 with ⟨_, h2⟩ | ⟨g, cap, cur, rfl, h3, rest⟩
  · omega
  · exact ⟨g, cap, rfl, h.1, .inr ⟨g, cap, cur, rfl, by omega, rest⟩⟩

theorem put_ret {base g cap N : Nat} {w w3 : World} {ys zs : List Int} (hy : zs = ys) (hN : N = ys.length) (h : Own base w3 (.slice (some ⟨g, 0, none⟩) ys.length cap) ys) (hb : Below w.heap.size w w3) :
    PutSaid zs base w (.returned (.slice (some ⟨g, 0, none⟩) N cap)) w3 := by
  subst hy hN
  exact ⟨g, cap, rfl, h, hb⟩

/-- What putI is, where the list is cut at k. -/
theorem put_new {n : Int} {xs : List Int} {k : Nat} (hc : cutI n xs k = cutI n xs xs.length) (hk : cutI n xs k = k) (hne : k = 0 ∨ xs.getD (k - 1) 0 ≠ n) : putI xs n = xs.take k ++ [n] ++ xs.drop k := by
  unfold putI
  rw [← hc, hk, if_neg (by rintro ⟨h1, h2⟩; rcases hne with h | h; omega; exact h h2)]
theorem put_old {n : Int} {xs : List Int} {k : Nat} (hc : cutI n xs k = cutI n xs xs.length) (hk : cutI n xs k = k) (h0 : 0 < k) (he : xs.getD (k - 1) 0 = n) : putI xs n = xs := by
  unfold putI
  rw [← hc, hk, if_pos ⟨h0, he⟩]

end Go.Proofs.Ytmiopbpahkgmbaa
