/- Lanes that run alone: programs without circles end within as many steps as they have instructions. -/
import Derived.Test.YtmiopbpahkgmbaaRuns
import Derived.Test.YtmiopbpahkgmbaaReachP
namespace Go.Proofs.Ytmiopbpahkgmbaa
open Go.RowKit Go

theorem countP_mono {f g : Nat → Bool} : ∀ {l : List Nat}, (∀ x ∈ l, f x = true → g x = true) → l.countP f ≤ l.countP g
  | [], _ => Nat.le_refl _
  | b :: l, h => by
    rw [List.countP_cons, List.countP_cons]
    have ih := countP_mono (f := f) (g := g) (l := l) (fun x hx => h x (List.mem_cons_of_mem _ hx))
    have hb := h b (List.mem_cons_self ..)
    cases hf : f b with
    | false => simp; omega
    | true => rw [hb hf]; simp; omega
theorem countP_lt {f g : Nat → Bool} {a : Nat} (hf : f a = false) (hg : g a = true) : ∀ {l : List Nat}, a ∈ l → (∀ x ∈ l, f x = true → g x = true) → l.countP f < l.countP g
  | [], h, _ => by cases h
  | b :: l, ha, h => by
    rw [List.countP_cons, List.countP_cons]
    have hl := fun x hx => h x (List.mem_cons_of_mem b hx)
    have hb := h b (List.mem_cons_self ..)
    rcases List.mem_cons.1 ha with rfl | ha
    · have ih := countP_mono hl
      rw [hf, hg]
      simp
      omega
    · have ih := countP_lt hf hg ha hl
      cases hfb : f b with
      | false => simp; omega
      | true => rw [hb hfb]; simp; omega

/-- What lies ahead of a place: one step for it, and one for each instruction that can come behind it. -/
def aheadN (p : List I4) (R : List Int → Nat → Bool) (k : Nat) : Nat := if k < p.length then 1 + (List.range p.length).countP (R (nextL p k)) else 0

theorem reach_next {p : List I4} {R : List Int → Nat → Bool} (hR : AllReach p R) {k m : Nat} (hm : (m : Int) ∈ nextL p k) : ∀ x, R (nextL p m) x = true → R (nextL p k) x = true := by
  intro x hx
  refine ((hR _) x).2 (((hR _) x).1 hx |>.of fun y hy => ?_)
  exact Reach.closed p _ m (Reach.start hm) y hy
theorem ahead_step {p : List I4} {R : List Int → Nat → Bool} (hR : AllReach p R) {k m : Nat} (hk : k < p.length) (hm : (m : Int) ∈ nextL p k) (hc : m < p.length → circQ p R m = false) : aheadN p R m + 1 ≤ aheadN p R k := by
  unfold aheadN
  rw [if_pos hk]
  split
  · rename_i hmk
    have := countP_lt (f := R (nextL p m)) (g := R (nextL p k)) (l := List.range p.length) (hc hmk) (((hR (nextL p k)) m).2 (Reach.start hm)) (List.mem_range.2 hmk) (fun x _ => reach_next hR hm x)
    omega
  · omega
theorem ends_from {p : List I4} {t : Int} {R : List Int → Nat → Bool} (hR : AllReach p R) (hq : quietOk p = true) (he : endsQ p R = true) : ∀ (n k : Nat) (rs : List Int), laneOk p t (k : Int) rs = true → Reach p [0] k → runN p t n (k : Int) rs ≤ aheadN p R k
  | 0, _, _, _, _ => Nat.zero_le _
  | n + 1, k, rs, hok, hk0 => by
    rcases quiet_step hq hok with ⟨_, hno⟩ | ⟨j, hj, hkj, hc, e1, _⟩
    · rw [(run_stay hno _).2]; exact Nat.zero_le _
    · have : k = j := by omega
      subst this
      rw [(run_step hc n).2]
      have hv := step_valid hok
      have hmem := nextR_mem hj rs
      rw [← e1] at hmem
      obtain ⟨_, _, ⟨h0, _⟩, _, _⟩ := laneOk_iff.1 hv
      obtain ⟨m, hm⟩ := Int.eq_ofNat_of_zero_le h0
      rw [hm] at hmem hv ⊢
      have hm0 : Reach p [0] m := Reach.closed p _ k hk0 m hmem
      have ih := ends_from hR hq he n m _ hv hm0
      have hcm : m < p.length → circQ p R m = false := fun hmk => by
        have h1 := (Bool.and_eq_true _ _ ▸ he : _ ∧ _).2
        have h2 := (List.all_eq_true.1 h1) m (List.mem_range.2 (by omega))
        rw [((hR [0]) m).2 hm0, Bool.true_and] at h2
        simpa using h2
      have := ahead_step hR hj hmem hcm
      omega
/-- A program without circles ends within as many steps as it has instructions. -/
theorem ends_run {p : List I4} {t : Int} {R : List Int → Nat → Bool} (hR : AllReach p R) (hq : quietOk p = true) (he : endsQ p R = true) (ht : 0 ≤ t ∧ t ≤ 23) (n : Nat) : runN p t n 0 [0, 0, 0, 0] ≤ p.length := by
  have h0 : Reach p [0] 0 := Reach.start (by simp)
  have h := ends_from hR hq he n 0 [0, 0, 0, 0] (t := t) (new_valid (quiet_iff.1 hq).2 ht) h0
  refine Nat.le_trans h ?_
  unfold aheadN
  split
  · rename_i hk
    have h1 := (Bool.and_eq_true _ _ ▸ he : _ ∧ _).2
    have h2 := (List.all_eq_true.1 h1) 0 (List.mem_range.2 (by omega))
    rw [((hR [0]) 0).2 h0, Bool.true_and] at h2
    have h3 : R (nextL p 0) 0 = false := by simpa [circQ] using h2
    have h4 := countP_lt (f := R (nextL p 0)) (g := fun _ => true) (l := List.range p.length) h3 rfl (List.mem_range.2 hk) (fun _ _ _ => rfl)
    have h5 : (List.range p.length).countP (fun _ => true) ≤ (List.range p.length).length := List.countP_le_length
    rw [List.length_range] at h5
    omega
  · omega
theorem ends_alone {p : List I4} {t : Int} {R : List Int → Nat → Bool} (hR : AllReach p R) (hq : quietOk p = true) (he : endsQ p R = true) (ht : 0 ≤ t ∧ t ≤ 23) : aloneOk p t = true ∧ alN p t ≤ (p.length : Int) := by
  have h32 := progOk_len (quiet_iff.1 hq).2
  have hr := ends_run hR hq he ht 1000
  have hs := run_short hq 1000 (new_valid (quiet_iff.1 hq).2 ht) (by omega)
  have ha : aloneOk p t = true := aloneOk_iff.2 ⟨hq, ht, hs⟩
  refine ⟨ha, ?_⟩
  unfold alN
  rw [if_pos ha]
  omega

end Go.Proofs.Ytmiopbpahkgmbaa
