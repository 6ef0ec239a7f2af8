/- Lanes: the registers behind a step fit. -/
import Derived.Test.YtmiopbpahkgmbaaLaneH
namespace Go.Proofs.Ytmiopbpahkgmbaa
open Go.RowKit Go

theorem regS_len (p : List I4) (t pc : Int) (rs : List Int) : (regS p t pc rs).length = rs.length := by
  unfold regS
  split
  · split
    · exact applyR_len _ _ _
    · rfl
  · rfl

theorem isW_rng {x : Int} (h : isW x = true) : i64R x := by
  have := isW_iff.1 h
  unfold i64R
  omega
theorem rg_word {rs : List Int} (h : rs.all isW = true) (k : Int) : isW (rg rs k) = true := by
  unfold rg
  rw [List.getD_eq_getElem?_getD]
  by_cases hk : k.toNat < rs.length
  · rw [List.getElem?_eq_getElem hk]
    exact (List.all_eq_true.1 h) _ (List.getElem_mem hk)
  · rw [List.getElem?_eq_none (by omega)]
    rfl

theorem xor_word {a b : Int} (ha : isW a = true) (hb : isW b = true) : isW (xorW a b) = true := by
  have h1 := isW_iff.1 ha
  have h2 := isW_iff.1 hb
  obtain ⟨m, rfl⟩ := Int.eq_ofNat_of_zero_le h1.1
  obtain ⟨n, rfl⟩ := Int.eq_ofNat_of_zero_le h2.1
  have e : xorW (m : Int) (n : Int) = ((m ^^^ n : Nat) : Int) := by
    unfold xorW
    have h3 : m ^^^ n < 2 ^ 16 := Nat.xor_lt_two_pow (by omega) (by omega)
    have h4 : ((BitVec.ofInt 64 (m : Int)) ^^^ (BitVec.ofInt 64 (n : Int))).toNat = m ^^^ n := by
      rw [BitVec.toNat_xor, BitVec.ofInt_natCast, BitVec.ofInt_natCast, BitVec.toNat_ofNat, BitVec.toNat_ofNat, Nat.mod_eq_of_lt (by omega), Nat.mod_eq_of_lt (by omega)]
    show IntKind.i64.wrap (((BitVec.ofInt 64 (m : Int)) ^^^ (BitVec.ofInt 64 (n : Int))).toNat : Int) = _
    rw [h4]
    generalize m ^^^ n = q at *
    exact IntWalk.i64_in _ (by omega)
  rw [e]
  have h3 : m ^^^ n < 2 ^ 16 := Nat.xor_lt_two_pow (by omega) (by omega)
  exact isW_mk (by omega) (by omega)
theorem valR_word {o a b c t s : Int} {rs : List Int} (hx : insOk o a b c s = true) (h : rs.all isW = true) (ht : 0 ≤ t ∧ t ≤ 23) {v : Int} (hv : valR o b c t rs = some v) : isW v = true := by
  obtain ⟨_, _, f1, _, _⟩ := ok_fields hx
  have hr := rg_word h
  unfold valR at hv
  split at hv
  · rename_i h1
    injection hv with hv
    subst hv
    have := f1 h1
    exact isW_mk this.1 this.2
  split at hv
  · injection hv with hv; subst hv; exact hr _
  split at hv
  · injection hv with hv; subst hv; unfold addW ofWords; rw [if_pos ⟨hr _, hr _⟩]; exact isW_mod _
  split at hv
  · injection hv with hv; subst hv; unfold subW ofWords; rw [if_pos ⟨hr _, hr _⟩]; exact isW_mod _
  split at hv
  · injection hv with hv; subst hv; unfold mulW ofWords; rw [if_pos ⟨hr _, hr _⟩]; exact isW_mod _
  split at hv
  · injection hv with hv; subst hv; exact xor_word (hr _) (hr _)
  split at hv
  · injection hv with hv; subst hv; unfold lessW ofWords; rw [if_pos ⟨hr _, hr _⟩]; show isW (if rg rs b < rg rs c then 1 else 0) = true; split <;> decide
  split at hv
  · injection hv with hv; subst hv; exact isW_mk ht.1 (by omega)
  split at hv
  · split at hv
    · cases hv
    · injection hv with hv; subst hv; exact hr _
  cases hv
theorem applyR_words {x : I4} {t s : Int} {rs : List Int} (hx : insOk x.o x.a x.b x.c s = true) (h : rs.all isW = true) (ht : 0 ≤ t ∧ t ≤ 23) : (applyR x t rs).all isW = true := by
  unfold applyR
  split
  · rename_i v hv
    rw [List.all_eq_true]
    intro y hy
    rcases List.mem_or_eq_of_mem_set hy with hy | rfl
    · exact (List.all_eq_true.1 h) y hy
    · exact valR_word hx h ht hv
  · exact h
theorem step_words {p : List I4} {t pc : Int} {rs : List Int} (h : canStep p t pc rs = true) : (regS p t pc rs).all isW = true := by
  rcases step_ways p t pc rs with ⟨_, hno⟩ | ⟨_, _, hno⟩ | ⟨k, hk, rfl, hok, ⟨_, hno⟩ | hlo⟩
  · rw [hno] at h; cases h
  · rw [hno] at h; cases h
  · rw [hno] at h; cases h
  · obtain ⟨_, _, e⟩ := step_yes hk hok hlo
    rw [e]
    obtain ⟨hp, ht, _, _, hw⟩ := laneOk_iff.1 hok
    exact applyR_words (progOk_at hp hk) hw ht
theorem reg_rng {p : List I4} {t pc : Int} {rs : List Int} (h : ∀ x ∈ rs, i64R x) : ∀ x ∈ regS p t pc rs, i64R x := by
  cases hc : canStep p t pc rs with
  | true => exact fun x hx => isW_rng ((List.all_eq_true.1 (step_words hc)) x hx)
  | false => rw [(step_no hc).2]; exact h

end Go.Proofs.Ytmiopbpahkgmbaa
