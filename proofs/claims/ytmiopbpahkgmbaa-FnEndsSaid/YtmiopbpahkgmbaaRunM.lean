/- Lanes that run alone: a run on its way. -/
import Derived.Test.YtmiopbpahkgmbaaLaneQ
import Derived.Test.YtmiopbpahkgmbaaSep
import Derived.Test.YtmiopbpahkgmbaaRuns
import Derived.ScopeJumps
namespace Go.Proofs.Ytmiopbpahkgmbaa
open Go.RowKit Go

/-- A run on its way: so many steps are made, the lane is at k with registers ys. -/
def RunRel (p : List I4) (t : Int) (N : Nat) (pc : Int) (rs : List Int) (k : Int) (ys : List Int) (c : Nat) : Prop :=
  laneOk p t k ys = true ∧ c ≤ N ∧ runS p t (N - c) k ys = runS p t N pc rs ∧ runN p t (N - c) k ys + c = runN p t N pc rs
theorem RunRel.first {p : List I4} {t pc : Int} {N : Nat} {rs : List Int} (h : laneOk p t pc rs = true) : RunRel p t N pc rs pc rs 0 := ⟨h, Nat.zero_le _, rfl, rfl⟩
theorem RunRel.next {p : List I4} {t pc : Int} {N : Nat} {rs ys : List Int} {k c : Nat} (hq : quietOk p = true) (h : RunRel p t N pc rs k ys c) (hc : c < N) (hk : k < p.length) : RunRel p t N pc rs (nextR p k p[k] ys) (applyR p[k] t ys) (c + 1) := by
  obtain ⟨h1, h2, h3, h4⟩ := h
  rcases quiet_step hq h1 with ⟨he, _⟩ | ⟨j, hj, hkj, hcs, e1, e2⟩
  · omega
  · have : k = j := by omega
    subst this
    rw [show N - c = (N - (c + 1)) + 1 by omega, (run_step hcs _).1] at h3
    rw [show N - c = (N - (c + 1)) + 1 by omega, (run_step hcs _).2] at h4
    rw [← e1, ← e2]
    exact ⟨step_valid h1, hc, h3, by omega⟩
theorem RunRel.stop {p : List I4} {t pc k : Int} {N c : Nat} {rs ys : List Int} (h : RunRel p t N pc rs k ys c) (he : c = N ∨ k = (p.length : Int)) : (runS p t N pc rs).1 = k ∧ (runS p t N pc rs).2 = ys ∧ runN p t N pc rs = c := by
  obtain ⟨h1, h2, h3, h4⟩ := h
  rcases he with rfl | rfl
  · rw [Nat.sub_self] at h3 h4
    rw [← h3, ← h4]
    exact ⟨rfl, rfl, Nat.zero_add _⟩
  · have hno : canStep p t (p.length : Int) ys = false := by unfold canStep; rw [decide_eq_true rfl]; cases laneOk p t (p.length : Int) ys <;> rfl
    rw [(run_stay hno _).1] at h3
    rw [(run_stay hno _).2] at h4
    rw [← h3, ← h4]
    exact ⟨rfl, rfl, Nat.zero_add _⟩
/-- The block of the lane that runs, and its registers. -/
def RunAt (w0 W : World) (g : Nat) (t k : Int) (a5 : Option Addr) (c5 : Nat) (ys : List Int) : Prop :=
  Kept w0 W ∧ Box 27 W g #[.int .i64 t, .int .i64 k, .slice a5 4 c5] ∧ Own w0.heap.size W (.slice a5 4 c5) ys ∧ BSep g (.slice a5 4 c5) ∧ w0.heap.size ≤ g
theorem RunAt.next {w0 W w3 : World} {g B : Nat} {t k m : Int} {a5 a6 : Option Addr} {c5 c6 : Nat} {ys zs : List Int} (h : RunAt w0 W g t k a5 c5 ys) (hk : Kept W w3) (o : Own B w3 (.slice a6 4 c6) zs) (hB : g < B) :
    RunAt w0 (((w3.setCell ⟨g, 0, none⟩ (.int .i64 t)).setCell ⟨g, 1, none⟩ (.int .i64 m)).setCell ⟨g, 2, none⟩ (.slice a6 4 c6)) g t m a6 c6 zs := by
  obtain ⟨h1, h2, _, _, h5⟩ := h
  have hk3 : Kept w0 w3 := h1.call hk
  obtain ⟨q1, q2, q3⟩ := cut_old (x := .int .i64 t) (y := .int .i64 m) (z := .slice a6 4 c6) (h2.below hk) hB o (by omega) h5 hk3
  exact ⟨q3, q1, q2, bsep_new o hB, h5⟩
theorem RunAt.drew {w0 W : World} {g : Nat} {t k : Int} {a5 : Option Addr} {c5 : Nat} {ys : List Int} (h : RunAt w0 W g t k a5 c5 ys) : RunAt w0 W.drew g t k a5 c5 ys := by
  obtain ⟨h1, h2, h3, h4, h5⟩ := h
  exact ⟨Kept.drew h1, h2.below (below_drewN _ _ 1), h3.below (below_drewN _ _ 1), h4, h5⟩
theorem RunAt.call {w0 W W' : World} {g : Nat} {t k : Int} {a5 : Option Addr} {c5 : Nat} {ys : List Int} (h : RunAt w0 W g t k a5 c5 ys) (hb : Below W.heap.size W W') : RunAt w0 W' g t k a5 c5 ys := by
  obtain ⟨h1, h2, h3, h4, h5⟩ := h
  exact ⟨h1.call hb, h2.below hb, h3.below hb, h4, h5⟩
theorem RunAt.first {w0 w1 : World} {t k : Int} {a5 : Option Addr} {c5 : Nat} {ys : List Int} (hk : Kept w0 w1) (o : Own w0.heap.size w1 (.slice a5 4 c5) ys) :
    RunAt w0 (w1.alloc (.cells #[.int .i64 t, .int .i64 k, .slice a5 4 c5] 27)) w1.heap.size t k a5 c5 ys :=
  ⟨hk.alloc _, Box.new _ _ _, o.alloc _, bsep_old (under_of o) (Nat.le_refl _), hk.size⟩

section
variable {P : Program} {a : Act} {w : World} {Q : Exit → Act → World → Prop}
/-- 'wp_scope_jumps', what stands behind the label walked once: the way to it goes on by it. -/
theorem wp_scope_from {c rest : Code} (l : Nat) (J : Act → World → Prop) (μ : Act → World → Nat) (hf : findLabel c l = some (.seq .skip rest))
    (pass : ∀ a w, J a w → rest.wp P (Exit.jump l (fun a' w' => J a' w' ∧ μ a' w' < μ a w) Q) a w)
    (first : (∀ a w, J a w → rest.wp P (Exit.jump l J Q) a w) → c.wp P (Exit.jump l J Q) a w) : (Code.scope c).wp P Q a w :=
  wp_scope_jumps l J μ hf (first fun a w h => wp_mono (pass a w h) fun e a w hq => by
    cases e with
    | goto l' => exact ⟨hq.1, hq.2.1⟩
    | normal => exact hq
    | exit id => exact hq
    | ret => exact hq
    | panic ch => exact hq
    | outgrown => exact hq) fun a w h => wp_seq (wp_skip (pass a w h))
end

end Go.Proofs.Ytmiopbpahkgmbaa
