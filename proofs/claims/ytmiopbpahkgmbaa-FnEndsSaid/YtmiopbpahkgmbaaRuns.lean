/- Lanes that run alone: the mathematics of runs. -/
import Derived.Test.YtmiopbpahkgmbaaLaneR
namespace Go.Proofs.Ytmiopbpahkgmbaa
open Go.RowKit Go

theorem nextR_mem {p : List I4} {k : Nat} (hk : k < p.length) (rs : List Int) : nextR p k p[k] rs ∈ nextL p k := by
  rw [nextL_at hk]
  unfold nextR nextI
  split
  · simp
  split
  · simp
  rename_i h1 h2
  by_cases h10 : p[k].o = 10
  · rw [if_pos h10]
    split
    · exact ((ascOf_asc _).2 _).2 (by simp)
    · exact ((ascOf_asc _).2 _).2 (by simp)
  · rw [if_neg h10, if_neg (fun h => h10 h.1)]
    simp
theorem words_rng {rs : List Int} (h : rs.all isW = true) : ∀ x ∈ rs, i64R x := fun x hx => isW_rng ((List.all_eq_true.1 h) x hx)

/-- Where a lane is behind so many steps, and its registers; where it can't step it stays. -/
def runS (p : List I4) (t : Int) : Nat → Int → List Int → Int × List Int
  | 0, pc, rs => (pc, rs)
  | n + 1, pc, rs => runS p t n (pcS p t pc rs) (regS p t pc rs)
/-- How many of so many steps it makes. -/
def runN (p : List I4) (t : Int) : Nat → Int → List Int → Nat
  | 0, _, _ => 0
  | n + 1, pc, rs => if canStep p t pc rs = true then runN p t n (pcS p t pc rs) (regS p t pc rs) + 1 else 0

theorem run_stay {p : List I4} {t pc : Int} {rs : List Int} (h : canStep p t pc rs = false) : ∀ n, runS p t n pc rs = (pc, rs) ∧ runN p t n pc rs = 0
  | 0 => ⟨rfl, rfl⟩
  | n + 1 => by
    obtain ⟨e1, e2⟩ := step_no h
    unfold runS runN
    rw [e1, e2, h]
    exact ⟨(run_stay h n).1, rfl⟩
theorem run_step {p : List I4} {t pc : Int} {rs : List Int} (h : canStep p t pc rs = true) (n : Nat) : runS p t (n + 1) pc rs = runS p t n (pcS p t pc rs) (regS p t pc rs) ∧ runN p t (n + 1) pc rs = runN p t n (pcS p t pc rs) (regS p t pc rs) + 1 :=
  ⟨rfl, by show (if canStep p t pc rs = true then _ else _) = _; rw [if_pos h]⟩
theorem run_le (p : List I4) (t : Int) : ∀ (n : Nat) (pc : Int) (rs : List Int), runN p t n pc rs ≤ n
  | 0, _, _ => Nat.le_refl _
  | n + 1, pc, rs => by
    unfold runN
    have := run_le p t n (pcS p t pc rs) (regS p t pc rs)
    split <;> omega
theorem runS_add (p : List I4) (t : Int) (b : Nat) : ∀ (a : Nat) (pc : Int) (rs : List Int), runS p t (a + b) pc rs = runS p t b (runS p t a pc rs).1 (runS p t a pc rs).2
  | 0, pc, rs => by rw [Nat.zero_add]; rfl
  | a + 1, pc, rs => by
    rw [show a + 1 + b = (a + b) + 1 by omega]
    exact runS_add p t b a _ _
theorem runN_add (p : List I4) (t : Int) (b : Nat) : ∀ (a : Nat) (pc : Int) (rs : List Int), runN p t (a + b) pc rs = runN p t a pc rs + runN p t b (runS p t a pc rs).1 (runS p t a pc rs).2
  | 0, pc, rs => by rw [Nat.zero_add]; show _ = 0 + _; rw [Nat.zero_add]; rfl
  | a + 1, pc, rs => by
    cases h : canStep p t pc rs with
    | false =>
      rw [(run_stay h _).1, (run_stay h _).2, (run_stay h _).2, (run_stay h _).2]
    | true =>
      rw [show a + 1 + b = (a + b) + 1 by omega, (run_step h _).2, (run_step h _).2, (run_step h _).1, runN_add p t b a]
      omega
/-- A step keeps a lane valid. -/
theorem step_valid {p : List I4} {t pc : Int} {rs : List Int} (h : laneOk p t pc rs = true) : laneOk p t (pcS p t pc rs) (regS p t pc rs) = true := by
  rcases step_ways p t pc rs with ⟨_, hno⟩ | ⟨_, _, hno⟩ | ⟨k, hk, rfl, hok, ⟨_, hno⟩ | hlo⟩
  · rw [(step_no hno).1, (step_no hno).2]; exact h
  · rw [(step_no hno).1, (step_no hno).2]; exact h
  · rw [(step_no hno).1, (step_no hno).2]; exact h
  · obtain ⟨_, e1, e2⟩ := step_yes hk hok hlo
    rw [e1, e2]
    obtain ⟨hp, ht, _, h4, hw⟩ := laneOk_iff.1 hok
    have hm := nextL_rng hp k _ (nextR_mem hk rs)
    exact laneOk_iff.2 ⟨hp, ht, ⟨hm.1, by omega⟩, by rw [applyR_len]; exact h4, applyR_words (progOk_at hp hk) hw ht⟩
theorem run_valid {p : List I4} {t : Int} : ∀ (n : Nat) {pc : Int} {rs : List Int}, laneOk p t pc rs = true → laneOk p t (runS p t n pc rs).1 (runS p t n pc rs).2 = true
  | 0, _, _, h => h
  | n + 1, _, _, h => run_valid (p := p) (t := t) n (step_valid h)
theorem quiet_iff {p : List I4} : quietOk p = true ↔ p.all locI = true ∧ progOk p = true := by
  unfold quietOk
  rw [Bool.and_eq_true]
/-- A valid lane of a quiet program: it can step, or has ended. -/
theorem quiet_step {p : List I4} {t pc : Int} {rs : List Int} (hq : quietOk p = true) (h : laneOk p t pc rs = true) : (pc = (p.length : Int) ∧ canStep p t pc rs = false) ∨
    ∃ (k : Nat) (hk : k < p.length), pc = k ∧ canStep p t k rs = true ∧ pcS p t k rs = nextR p k p[k] rs ∧ regS p t k rs = applyR p[k] t rs := by
  rcases step_ways p t pc rs with ⟨hno, _⟩ | ⟨_, he, hno⟩ | ⟨k, hk, rfl, hok, ⟨hlo, _⟩ | hlo⟩
  · rw [hno] at h; cases h
  · exact .inl ⟨he, hno⟩
  · rw [(List.all_eq_true.1 (quiet_iff.1 hq).1) _ (List.getElem_mem hk)] at hlo; cases hlo
  · exact .inr ⟨k, hk, rfl, step_yes hk hok hlo⟩
/-- Fewer steps than asked for: the lane has ended. -/
theorem run_short {p : List I4} {t : Int} (hq : quietOk p = true) : ∀ (n : Nat) {pc : Int} {rs : List Int}, laneOk p t pc rs = true → runN p t n pc rs < n → (runS p t n pc rs).1 = (p.length : Int)
  | 0, _, _, _, hn => by omega
  | n + 1, pc, rs, h, hn => by
    rcases quiet_step hq h with ⟨he, hno⟩ | ⟨k, hk, rfl, hc, _, _⟩
    · rw [(run_stay hno _).1]; exact he
    · rw [(run_step hc n).1]
      rw [(run_step hc n).2] at hn
      exact run_short hq n (step_valid h) (by omega)

/-- What the arguments of a run must be. -/
def runOk (p : List I4) (t pc : Int) (rs : List Int) (n : Int) : Bool := quietOk p && (laneOk p t pc rs && decide (0 ≤ n ∧ n ≤ 1000))
theorem runOk_iff {p : List I4} {t pc n : Int} {rs : List Int} : runOk p t pc rs n = true ↔ quietOk p = true ∧ laneOk p t pc rs = true ∧ (0 ≤ n ∧ n ≤ 1000) := by
  unfold runOk
  simp only [Bool.and_eq_true, decide_eq_true_eq]
/-- What a run answers. -/
def rnP (p : List I4) (t pc : Int) (rs : List Int) (n : Int) : Int := if runOk p t pc rs n = true then (runS p t n.toNat pc rs).1 else pc
def rnR (p : List I4) (t pc : Int) (rs : List Int) (n : Int) : List Int := if runOk p t pc rs n = true then (runS p t n.toNat pc rs).2 else rs
def rnN (p : List I4) (t pc : Int) (rs : List Int) (n : Int) : Int := if runOk p t pc rs n = true then (runN p t n.toNat pc rs : Int) else -1
theorem rn_no {p : List I4} {t pc n : Int} {rs : List Int} (h : runOk p t pc rs n = false) : rnP p t pc rs n = pc ∧ rnR p t pc rs n = rs ∧ rnN p t pc rs n = -1 := by
  unfold rnP rnR rnN
  rw [h]
  exact ⟨rfl, rfl, rfl⟩
theorem rn_yes {p : List I4} {t pc : Int} {n : Nat} {rs : List Int} (h : runOk p t pc rs n = true) : rnP p t pc rs n = (runS p t n pc rs).1 ∧ rnR p t pc rs n = (runS p t n pc rs).2 ∧ rnN p t pc rs n = (runN p t n pc rs : Int) := by
  unfold rnP rnR rnN
  rw [h]
  exact ⟨rfl, rfl, rfl⟩
theorem run_len {p : List I4} {t : Int} : ∀ (n : Nat) (pc : Int) (rs : List Int), (runS p t n pc rs).2.length = rs.length
  | 0, _, _ => rfl
  | n + 1, pc, rs => by
    show (runS p t n (pcS p t pc rs) (regS p t pc rs)).2.length = _
    rw [run_len n, regS_len]
theorem rn_len (p : List I4) (t pc : Int) (rs : List Int) (n : Int) : (rnR p t pc rs n).length = rs.length := by
  unfold rnR
  split
  · exact run_len _ _ _
  · rfl
theorem rn_rng {p : List I4} {t pc n : Int} {rs : List Int} (h : ∀ x ∈ rs, i64R x) : ∀ x ∈ rnR p t pc rs n, i64R x := by
  unfold rnR
  split
  · rename_i hk
    exact words_rng (laneOk_iff.1 (run_valid n.toNat (runOk_iff.1 hk).2.1)).2.2.2.2
  · exact h
/-- A lane and a number are returned, the registers in memory of the call's own. -/
def RunSaid (t pc : Int) (rs : List Int) (n : Int) (w : World) (e : Ending) (w' : World) : Prop :=
  ∃ (a : Option Addr) (c : Nat), e = .returned (.tuple #[.agg #[.int .i64 t, .int .i64 pc, .slice a rs.length c], .int .i64 n]) ∧ Own w.heap.size w' (.slice a rs.length c) rs ∧ Below w.heap.size w w'

/-- Does a thread that runs alone end? -/
def aloneOk (p : List I4) (t : Int) : Bool := quietOk p && (decide (0 ≤ t ∧ t ≤ 23) && decide ((runS p t 1000 0 [0, 0, 0, 0]).1 = (p.length : Int)))
theorem aloneOk_iff {p : List I4} {t : Int} : aloneOk p t = true ↔ quietOk p = true ∧ (0 ≤ t ∧ t ≤ 23) ∧ (runS p t 1000 0 [0, 0, 0, 0]).1 = (p.length : Int) := by
  unfold aloneOk
  simp only [Bool.and_eq_true, decide_eq_true_eq]
def alT (p : List I4) (t : Int) : Int := if aloneOk p t = true then t else 0
def alP (p : List I4) (t : Int) : Int := if aloneOk p t = true then (p.length : Int) else 0
def alR (p : List I4) (t : Int) : List Int := if aloneOk p t = true then (runS p t 1000 0 [0, 0, 0, 0]).2 else []
def alN (p : List I4) (t : Int) : Int := if aloneOk p t = true then (runN p t 1000 0 [0, 0, 0, 0] : Int) else -1
theorem new_valid {p : List I4} {t : Int} (hp : progOk p = true) (ht : 0 ≤ t ∧ t ≤ 23) : laneOk p t 0 [0, 0, 0, 0] = true := laneOk_iff.2 ⟨hp, ht, ⟨Int.le_refl _, by omega⟩, rfl, rfl⟩
theorem new_yes {t : Int} (ht : 0 ≤ t ∧ t ≤ 23) : newT t = t ∧ newR t = [0, 0, 0, 0] := by
  unfold newT newR
  rw [decide_eq_true ht]
  exact ⟨rfl, rfl⟩
theorem new_no {t : Int} (ht : ¬ (0 ≤ t ∧ t ≤ 23)) : newT t = 0 ∧ newR t = [] := by
  unfold newT newR
  rw [decide_eq_false ht]
  exact ⟨rfl, rfl⟩
/-- The ways of a thread that runs alone, by what the run of its new lane answers. -/
theorem alone_ways (p : List I4) (t : Int) : (aloneOk p t = true ∧ rnP p (newT t) 0 (newR t) 1000 = (p.length : Int) ∧ rnR p (newT t) 0 (newR t) 1000 = alR p t ∧ rnN p (newT t) 0 (newR t) 1000 = alN p t ∧ newT t = t ∧ 0 ≤ alN p t ∧ alN p t ≤ 1000 ∧
      laneOk p t (p.length : Int) (alR p t) = true) ∨
    (aloneOk p t = false ∧ endedQ p (newT t) (rnP p (newT t) 0 (newR t) 1000) (rnR p (newT t) 0 (newR t) 1000) = false ∧ (rnN p (newT t) 0 (newR t) 1000 = -1 ∨ (0 ≤ rnN p (newT t) 0 (newR t) 1000 ∧ rnN p (newT t) 0 (newR t) 1000 ≤ 1000 ∧ rnP p (newT t) 0 (newR t) 1000 < (p.length : Int)))) := by
  by_cases ht : 0 ≤ t ∧ t ≤ 23
  · rw [(new_yes ht).1, (new_yes ht).2]
    cases hq : quietOk p with
    | false =>
      have hno : runOk p t 0 [0, 0, 0, 0] 1000 = false := by unfold runOk; rw [hq]; rfl
      obtain ⟨e1, e2, e3⟩ := rn_no hno
      rw [e1, e2, e3]
      refine .inr ⟨by unfold aloneOk; rw [hq]; rfl, ?_, .inl rfl⟩
      unfold endedQ
      cases hl : laneOk p t 0 [0, 0, 0, 0] with
      | false => rfl
      | true =>
        rw [Bool.true_and, decide_eq_false_iff_not]
        intro h0
        have hp := (laneOk_iff.1 hl).1
        have : p = [] := List.eq_nil_of_length_eq_zero (by omega)
        subst this
        cases hq
    | true =>
      have hok := new_valid (quiet_iff.1 hq).2 ht
      have hyes : runOk p t 0 [0, 0, 0, 0] ((1000 : Nat) : Int) = true := runOk_iff.2 ⟨hq, hok, by omega⟩
      obtain ⟨e1, e2, e3⟩ := rn_yes hyes
      rw [show ((1000 : Nat) : Int) = 1000 from rfl] at e1 e2 e3
      rw [e1, e2, e3]
      have hv := run_valid 1000 hok
      have hle := run_le p t 1000 0 [0, 0, 0, 0]
      obtain ⟨_, _, ⟨h0, h1⟩, _, _⟩ := laneOk_iff.1 hv
      by_cases he : (runS p t 1000 0 [0, 0, 0, 0]).1 = (p.length : Int)
      · have ha : aloneOk p t = true := aloneOk_iff.2 ⟨hq, ht, he⟩
        refine .inl ⟨ha, he, by unfold alR; rw [if_pos ha], by unfold alN; rw [if_pos ha], rfl, ?_, ?_, ?_⟩
        · unfold alN; rw [if_pos ha]; omega
        · unfold alN; rw [if_pos ha]; omega
        · unfold alR; rw [if_pos ha, ← he]; exact hv
      · have ha : aloneOk p t = false := by
          cases h : aloneOk p t with
          | false => rfl
          | true => exact absurd (aloneOk_iff.1 h).2.2 he
        refine .inr ⟨ha, ?_, .inr ⟨by omega, by omega, by omega⟩⟩
        unfold endedQ
        rw [decide_eq_false he, Bool.and_false]
  · rw [(new_no ht).1, (new_no ht).2]
    have hl : laneOk p 0 0 [] = false := by
      cases h : laneOk p 0 0 [] with
      | false => rfl
      | true => have := (laneOk_iff.1 h).2.2.2.1; cases this
    have hno : runOk p 0 0 [] 1000 = false := by unfold runOk; rw [hl, Bool.false_and, Bool.and_false]
    obtain ⟨e1, e2, e3⟩ := rn_no hno
    rw [e1, e2, e3]
    refine .inr ⟨by unfold aloneOk; rw [decide_eq_false ht, Bool.false_and, Bool.and_false], by unfold endedQ; rw [hl]; rfl, .inl rfl⟩
theorem al_yes {p : List I4} {t : Int} (h : aloneOk p t = true) : alT p t = t ∧ alP p t = (p.length : Int) := by
  unfold alT alP
  rw [h]
  exact ⟨rfl, rfl⟩
theorem al_no {p : List I4} {t : Int} (h : aloneOk p t = false) : alT p t = 0 ∧ alP p t = 0 ∧ alR p t = [] ∧ alN p t = -1 := by
  unfold alT alP alR alN
  rw [h]
  exact ⟨rfl, rfl, rfl, rfl⟩
theorem al_len (p : List I4) (t : Int) : (alR p t).length ≤ 4 := by
  unfold alR
  split
  · rw [run_len]; exact Nat.le_refl _
  · exact Nat.zero_le _
theorem al_rng (p : List I4) (t : Int) : ∀ x ∈ alR p t, i64R x := by
  unfold alR
  split
  · rename_i h
    obtain ⟨hq, ht, _⟩ := aloneOk_iff.1 h
    exact words_rng (laneOk_iff.1 (run_valid 1000 (new_valid (quiet_iff.1 hq).2 ht))).2.2.2.2
  · intro x hx; cases hx

/-- The registers of threads one behind the other, and whether all of them end. -/
def endR (p : List I4) (f : Int) (n : Nat) : List Int := ((List.range n).map fun k : Nat => alR p (f + (k : Int))).flatten
def endOk (p : List I4) (f : Int) (n : Nat) : Bool := (List.range n).all fun k : Nat => aloneOk p (f + (k : Int))
theorem endR_snoc (p : List I4) (f : Int) (n : Nat) : endR p f (n + 1) = endR p f n ++ alR p (f + (n : Int)) := by
  unfold endR
  rw [List.range_succ, List.map_append, List.flatten_append]
  simp
theorem endOk_snoc (p : List I4) (f : Int) (n : Nat) : endOk p f (n + 1) = (endOk p f n && aloneOk p (f + (n : Int))) := by
  unfold endOk
  rw [List.range_succ, List.all_append]
  simp
theorem endR_len (p : List I4) (f : Int) : ∀ n, (endR p f n).length ≤ 4 * n
  | 0 => Nat.le_refl _
  | n + 1 => by
    rw [endR_snoc, List.length_append]
    have := endR_len p f n
    have := al_len p (f + (n : Int))
    omega
theorem endR_rng (p : List I4) (f : Int) (n : Nat) : ∀ x ∈ endR p f n, i64R x := by
  intro x hx
  unfold endR at hx
  obtain ⟨l, hl, hx⟩ := List.mem_flatten.1 hx
  obtain ⟨k, _, rfl⟩ := List.mem_map.1 hl
  exact al_rng _ _ x hx
theorem endOk_no {p : List I4} {f : Int} {n k : Nat} (hk : k < n) (h : aloneOk p (f + (k : Int)) = false) : endOk p f n = false := by
  unfold endOk
  rw [List.all_eq_false]
  exact ⟨k, List.mem_range.2 hk, by rw [h]; decide⟩

end Go.Proofs.Ytmiopbpahkgmbaa
