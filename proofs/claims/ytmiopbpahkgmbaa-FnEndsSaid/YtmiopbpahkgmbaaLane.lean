/- Lanes in plain words: what a local instruction does. No program is named here. -/
import Derived.Test.YtmiopbpahkgmbaaFlow
import Derived.Test.YtmiopbpahkgmbaaAreWords
namespace Go.Proofs.Ytmiopbpahkgmbaa
open Go.RowKit Go

/-- One register. -/
def rg (rs : List Int) (k : Int) : Int := rs.getD k.toNat 0
def xorW (a b : Int) : Int := bits .xor .i64 a b
/-- What is written into the register that an instruction changes; nothing where it changes none. -/
def valR (o b c t : Int) (rs : List Int) : Option Int :=
  if o = 1 then some b else if o = 2 then some (rg rs b) else if o = 3 then some (addW (rg rs b) (rg rs c)) else if o = 4 then some (subW (rg rs b) (rg rs c)) else if o = 5 then some (mulW (rg rs b) (rg rs c))
  else if o = 6 then some (xorW (rg rs b) (rg rs c)) else if o = 7 then some (lessW (rg rs b) (rg rs c)) else if o = 8 then some t else if o = 9 then (if rg rs c = 0 then none else some (rg rs b)) else none
/-- The registers behind an instruction. -/
def applyR (x : I4) (t : Int) (rs : List Int) : List Int :=
  match valR x.o x.b x.c t rs with
  | some v => rs.set x.a.toNat v
  | none => rs
/-- The instruction behind a local one. -/
def nextR (p : List I4) (k : Nat) (x : I4) (rs : List Int) : Int :=
  if x.o = 12 then p.length else if x.o = 11 then x.b else if x.o = 10 ∧ rg rs x.a = 0 then x.b else (k : Int) + 1
/-- Is a lane valid? -/
def laneOk (p : List I4) (t pc : Int) (rs : List Int) : Bool := progOk p && (decide (0 ≤ t ∧ t ≤ 23) && (decide (0 ≤ pc ∧ pc ≤ (p.length : Int)) && (decide (rs.length = 4) && rs.all isW)))

theorem applyR_len (x : I4) (t : Int) (rs : List Int) : (applyR x t rs).length = rs.length := by
  unfold applyR
  split
  · rw [List.length_set]
  · rfl

/-- The fields of a valid instruction that reads or changes registers. -/
theorem ok_fields {o a b c : Int} {s : Int} (h : insOk o a b c s = true) :
    (1 ≤ o → o ≤ 9 → 0 ≤ a ∧ a ≤ 3) ∧ (o = 10 → 0 ≤ a ∧ a ≤ 3) ∧ (o = 1 → 0 ≤ b ∧ b < 65536) ∧ (2 ≤ o → o ≤ 7 ∨ o = 9 → 0 ≤ b ∧ b ≤ 3) ∧ (3 ≤ o → o ≤ 7 ∨ o = 9 → 0 ≤ c ∧ c ≤ 3) := by
  unfold insOk at h
  split at h
  · simp only [Bool.and_eq_true] at h
    obtain ⟨⟨hA, hB⟩, hC⟩ := h
    refine ⟨fun h1 h2 => ?_, fun h1 => ?_, fun h1 => ?_, fun h1 h2 => ?_, fun h1 h2 => ?_⟩
    · unfold chA at hA
      rw [if_neg (by omega)] at hA
      exact inO_iff.1 hA
    · unfold chA at hA
      rw [if_neg (by omega)] at hA
      exact inO_iff.1 hA
    · unfold chB at hB
      rw [if_pos h1] at hB
      exact isW_iff.1 hB
    · unfold chB at hB
      rw [if_neg (by omega), if_neg (by omega), if_neg (by omega)] at hB
      exact inO_iff.1 hB
    · unfold chC at hC
      rw [if_pos (by omega)] at hC
      exact inO_iff.1 hC
  · cases h

end Go.Proofs.Ytmiopbpahkgmbaa
