/- Decimal texts of small numbers, as plain mathematics: no program. -/
import Derived.Lib.AtoiTie
import Derived.Lib.ItoaMem
import Derived.Lib.ItoaLen
namespace Go.Proofs.YtceicbncnhmkoaaDoor
open Go

theorem decFrom_append (l r : List UInt8) : ∀ acc, Lib.decFrom acc (l ++ r) = (Lib.decFrom acc l).bind fun a => Lib.decFrom a r := by
  induction l with
  | nil => intro acc; rfl
  | cons b l ih =>
    intro acc
    simp only [List.cons_append, Lib.decFrom]
    cases Lib.digitVal b with
    | none => rfl
    | some d => exact ih _

theorem digitVal_fig (d : Nat) (h : d < 10) : Lib.digitVal (UInt8.ofNat (48 + d)) = some d := by
  have : (UInt8.ofNat (48 + d)).toNat = 48 + d := by simp; omega
  unfold Lib.digitVal
  rw [this, if_pos (by omega)]
  congr 1; omega

theorem decFrom_digits (u : Nat) : Lib.decFrom 0 (Lib.decDigits u) = some u := by
  induction u using Nat.strongRecOn with
  | ind u ih =>
    rw [Lib.decDigits]
    by_cases h : u < 10
    · rw [dif_pos h]
      simp only [Lib.decFrom, digitVal_fig u h]
      congr 1; omega
    · rw [dif_neg h, decFrom_append, ih (u / 10) (by omega)]
      simp only [Option.bind_some, Lib.decFrom, digitVal_fig (u % 10) (by omega)]
      congr 1; omega

/-- The number up to 1000000000 whose text is l. -/
def puOf (l : List UInt8) : Option Nat :=
  match Lib.decFrom 0 l with
  | some v => if v ≤ 1000000000 ∧ Lib.itoa v = l then some v else none
  | none => none

theorem puOf_some {l : List UInt8} {n : Nat} (h : puOf l = some n) : n ≤ 1000000000 ∧ l = Lib.itoa n := by
  unfold puOf at h
  split at h
  · split at h
    · rename_i h1
      cases h
      exact ⟨h1.1, h1.2.symm⟩
    · cases h
  · cases h

theorem puOf_itoa (n : Nat) (hn : n ≤ 1000000000) : puOf (Lib.itoa n) = some n := by
  unfold puOf
  rw [Lib.itoa_nonneg, decFrom_digits]
  simp [hn, Lib.itoa_nonneg]

theorem nDigits_le (n : Nat) (k : Nat) : n < 10 ^ (k + 1) → Lib.nDigits n ≤ k + 1 := by
  induction k generalizing n with
  | zero => intro h; rw [Lib.nDigits_small (by omega)]; omega
  | succ k ih =>
    intro h
    by_cases h1 : n < 10
    · rw [Lib.nDigits_small h1]; omega
    · rw [Lib.nDigits_big h1]
      have := ih (n / 10) (by rw [Nat.pow_succ] at h; omega)
      omega

theorem itoa_len (n : Nat) (hn : n ≤ 1000000000) : (Lib.itoa n).length ≤ 10 := by
  rw [Lib.itoa_nonneg, Lib.decDigits_length]
  exact nDigits_le n 9 (by omega)

theorem decDigits_cons (n : Nat) : ∃ (c : UInt8) (r : List UInt8), Lib.decDigits n = c :: r := by
  cases h : Lib.decDigits n with
  | nil =>
    rw [Lib.decDigits] at h
    split at h <;> simp at h
  | cons c r => exact ⟨c, r, rfl⟩

theorem atoiAll_itoa (n : Nat) (hn : n ≤ 1000000000) : Lib.atoiAll (Lib.itoa n) = .ok n := by
  have hl := itoa_len n hn
  rw [Lib.atoiAll_short _ (by omega)]
  rw [Lib.itoa_nonneg]
  have hd := decFrom_digits n
  obtain ⟨c, r, hc⟩ := decDigits_cons n
  rw [hc] at hd ⊢
  have hdig := Lib.digit_of_decFrom _ _ _ hd 0 c rfl
  obtain ⟨d, hdv⟩ := hdig
  have hb := Lib.digitVal_eq hdv
  unfold Lib.atoi
  have h45 : (c == 45) = false := by
    rw [beq_eq_false_iff_ne]; intro e; subst e; simp at hb
  have h43 : (c == 43) = false := by
    rw [beq_eq_false_iff_ne]; intro e; subst e; simp at hb
  simp only [h45, h43]
  simp [Lib.decNat, hd, Lib.NumEnd.ofOption]

/-- What Atoi finds, against puOf. -/
theorem puOf_atoi {l : List UInt8} {n : Nat} (h : puOf l = some n) : Lib.atoiAll l = .ok n := by
  obtain ⟨h1, rfl⟩ := puOf_some h
  exact atoiAll_itoa n h1
theorem puOf_none_of {l : List UInt8} (h : ∀ n : Nat, n ≤ 1000000000 → Lib.atoiAll l = .ok n → l ≠ Lib.itoa n) : puOf l = none := by
  cases hp : puOf l with
  | none => rfl
  | some n => exact absurd (puOf_some hp).2 (h n (puOf_some hp).1 (puOf_atoi hp))
theorem puOf_long {l : List UInt8} (h : 10 < l.length) : puOf l = none := by
  cases hp : puOf l with
  | none => rfl
  | some n =>
    obtain ⟨h1, rfl⟩ := puOf_some hp
    have := itoa_len n h1
    omega
end Go.Proofs.YtceicbncnhmkoaaDoor
