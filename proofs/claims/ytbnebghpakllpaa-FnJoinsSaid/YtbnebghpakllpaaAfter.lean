/- Post-dominators in plain words: what lies on every way to the exit. No program is named here. -/
import Derived.Test.YtbnebghpakllpaaFlow
namespace Go.Proofs.Ytbnebghpakllpaa
open Go.RowKit Go

/-- Reached from some nodes by ways that pass c nowhere. -/
def ReachA (p : List I4) (us : List Int) (c : Int) (b : Nat) : Prop :=
  ∀ S : Nat → Prop, (∀ m : Nat, (m : Int) ∈ us → (m : Int) ≠ c → S m) → (∀ k, S k → ∀ m : Nat, (m : Int) ∈ nextL p k → (m : Int) ≠ c → S m) → S b

theorem ReachA.start {p : List I4} {us : List Int} {c : Int} {m : Nat} (h : (m : Int) ∈ us) (hc : (m : Int) ≠ c) : ReachA p us c m := fun _ h0 _ => h0 m h hc
theorem ReachA.step {p : List I4} {us : List Int} {c : Int} {k m : Nat} (h : ReachA p us c k) (hm : (m : Int) ∈ nextL p k) (hc : (m : Int) ≠ c) : ReachA p us c m := fun S h0 h1 => h1 k (h S h0 h1) m hm hc
theorem ReachA.ne {p : List I4} {us : List Int} {c : Int} {b : Nat} (h : ReachA p us c b) : (b : Int) ≠ c := h (fun k => (k : Int) ≠ c) (fun _ _ h => h) (fun _ _ _ _ h => h)
theorem ReachA.reach {p : List I4} {us : List Int} {c : Int} {b : Nat} (h : ReachA p us c b) : Reach p us b := h _ (fun _ hm _ => Reach.start hm) (fun k hk m hm _ => Reach.closed p us k hk m hm)
theorem ReachA.of {p : List I4} {us vs : List Int} {c : Int} {b : Nat} (h : ReachA p us c b) (hu : ∀ m : Nat, (m : Int) ∈ us → (m : Int) ≠ c → ReachA p vs c m) : ReachA p vs c b :=
  h _ hu (fun _ hk _ hm hc => hk.step hm hc)
theorem ReachA.le {p : List I4} {us : List Int} {c : Int} {b : Nat} (hp : progOk p = true) (hu : ∀ u ∈ us, u ≤ p.length) (h : ReachA p us c b) : b ≤ p.length := h.reach.le hp hu
theorem ReachA.split {p : List I4} {us : List Int} {c : Int} {b : Nat} : ReachA p us c b ↔ ∃ u : Nat, (u : Int) ∈ us ∧ ReachA p [(u : Int)] c b := by
  constructor
  · intro h
    refine h (fun b => ∃ u : Nat, (u : Int) ∈ us ∧ ReachA p [(u : Int)] c b) (fun m hm hc => ⟨m, hm, ReachA.start (by simp) hc⟩) ?_
    rintro k ⟨u, hu, hr⟩ m hm hc
    exact ⟨u, hu, hr.step hm hc⟩
  · rintro ⟨u, hu, hr⟩
    refine hr.of fun m hm hc => ?_
    rw [List.mem_singleton] at hm
    obtain rfl : m = u := by omega
    exact ReachA.start hu hc
/-- From a node: itself, or from a successor. -/
theorem ReachA.step_iff {p : List I4} {k : Nat} {c : Int} {b : Nat} : ReachA p [(k : Int)] c b ↔ (k : Int) ≠ c ∧ (k = b ∨ ReachA p (nextL p k) c b) := by
  constructor
  · intro h
    have hkc : (k : Int) ≠ c := fun e => (h (fun _ => False) (fun m hm hc => by rw [List.mem_singleton] at hm; omega) (fun _ h _ _ _ => h))
    refine ⟨hkc, h (fun b => k = b ∨ ReachA p (nextL p k) c b) (fun m hm _ => ?_) ?_⟩
    · rw [List.mem_singleton] at hm
      exact .inl (by omega)
    · rintro j (rfl | hr) m hm hc
      · exact .inr (ReachA.start hm hc)
      · exact .inr (hr.step hm hc)
  · rintro ⟨hkc, rfl | hr⟩
    · exact ReachA.start (by simp) hkc
    · refine hr.of fun m hm hc => ?_
      exact (ReachA.start (by simp) hkc).step hm hc

/-- Does every way from a to the exit pass c? (Said of an a that reaches the exit.) -/
def After (p : List I4) (a : Nat) (c : Int) : Prop := ¬ ReachA p [(a : Int)] c p.length

theorem After.self (p : List I4) (a : Nat) : After p a a := fun h => (ReachA.step_iff.1 h).1 rfl
theorem After.exit (p : List I4) (a : Nat) : After p a p.length := fun h => h.ne rfl

/-- A node behind a that reaches the exit: it reaches the exit, and a reaches it. -/
theorem After.reaches {p : List I4} {a c : Nat} (h : After p a c) (hr : Reach p [(a : Int)] p.length) : Reach p [(c : Int)] p.length ∧ Reach p [(a : Int)] c := by
  constructor
  · have key : ReachA p [(a : Int)] c p.length ∨ Reach p [(c : Int)] p.length := hr (fun k => ReachA p [(a : Int)] c k ∨ Reach p [(c : Int)] k) (fun m hm => by
        rw [List.mem_singleton] at hm
        obtain rfl : m = a := by omega
        by_cases e : m = c
        · subst e; exact .inr (Reach.start (by simp))
        · exact .inl (ReachA.start (by simp) (by omega))) (fun k hk m hm => by
        rcases hk with hk | hk
        · by_cases e : m = c
          · subst e; exact .inr (Reach.start (by simp))
          · exact .inl (hk.step hm (by omega))
        · exact .inr (Reach.closed p _ k hk m hm))
    exact key.resolve_left h
  · have key : ReachA p [(a : Int)] c p.length ∨ Reach p [(a : Int)] c := hr (fun k => ReachA p [(a : Int)] c k ∨ Reach p [(a : Int)] c) (fun m hm => by
        rw [List.mem_singleton] at hm
        obtain rfl : m = a := by omega
        by_cases e : m = c
        · subst e; exact .inr (Reach.start (by simp))
        · exact .inl (ReachA.start (by simp) (by omega))) (fun k hk m hm => by
        rcases hk with hk | hk
        · by_cases e : m = c
          · subst e; exact .inr (Reach.closed p _ k hk.reach m hm)
          · exact .inl (hk.step hm (by omega))
        · exact .inr hk)
    exact key.resolve_left h

theorem After.trans {p : List I4} {c d : Nat} {e : Int} (h1 : After p c d) (h2 : After p d e) : After p c e := by
  intro h
  have key : ReachA p [(c : Int)] d p.length ∨ ReachA p [(d : Int)] e p.length := h (fun k => ReachA p [(c : Int)] d k ∨ ReachA p [(d : Int)] e k) (fun m hm he => by
      rw [List.mem_singleton] at hm
      obtain rfl : m = c := by omega
      by_cases e1 : m = d
      · subst e1; exact .inr (ReachA.start (by simp) he)
      · exact .inl (ReachA.start (by simp) (by omega))) (fun k hk m hm he => by
      by_cases e1 : m = d
      · subst e1; exact .inr (ReachA.start (by simp) he)
      · rcases hk with hk | hk
        · exact .inl (hk.step hm (by omega))
        · exact .inr (hk.step hm he))
  rcases key with k | k
  · exact h1 k
  · exact h2 k

/-- Of two nodes behind a, one is behind the other. -/
theorem After.total {p : List I4} {a c d : Nat} (hr : Reach p [(a : Int)] p.length) (hc : After p a c) (hd : After p a d) : After p c d ∨ After p d c := by
  by_cases hcd : c = d
  · subst hcd; exact .inl (After.self p c)
  · by_cases h1 : After p c d
    · exact .inl h1
    · refine .inr fun h2 => ?_
      replace h1 : ReachA p [(c : Int)] d p.length := Classical.not_not.1 h1
      -- what is reached from a by ways that pass neither
      have key : (ReachA p [(a : Int)] c p.length ∧ ReachA p [(a : Int)] d p.length) ∨ (ReachA p [(a : Int)] d c ∨ ReachA p [(a : Int)] c d) :=
        hr (fun k => (ReachA p [(a : Int)] c k ∧ ReachA p [(a : Int)] d k) ∨ (ReachA p [(a : Int)] d c ∨ ReachA p [(a : Int)] c d)) (fun m hm => by
          rw [List.mem_singleton] at hm
          obtain rfl : m = a := by omega
          by_cases e1 : m = c
          · subst e1; exact .inr (.inl (ReachA.start (by simp) (by omega)))
          · by_cases e2 : m = d
            · subst e2; exact .inr (.inr (ReachA.start (by simp) (by omega)))
            · exact .inl ⟨ReachA.start (by simp) (by omega), ReachA.start (by simp) (by omega)⟩) (fun k hk m hm => by
          rcases hk with ⟨k1, k2⟩ | hk
          · by_cases e1 : m = c
            · subst e1; exact .inr (.inl (k2.step hm (by omega)))
            · by_cases e2 : m = d
              · subst e2; exact .inr (.inr (k1.step hm (by omega)))
              · exact .inl ⟨k1.step hm (by omega), k2.step hm (by omega)⟩
          · exact .inr hk)
      rcases key with ⟨k, _⟩ | k | k
      · exact hc k
      · refine hd (h1.of fun m hm _ => ?_)
        rw [List.mem_singleton] at hm
        obtain rfl : m = c := by omega
        exact k
      · refine hc (h2.of fun m hm _ => ?_)
        rw [List.mem_singleton] at hm
        obtain rfl : m = d := by omega
        exact k

theorem After.anti {p : List I4} {c d : Nat} (hr : Reach p [(c : Int)] p.length) (h1 : After p c d) (h2 : After p d c) : c = d := by
  by_cases hcd : c = d
  · exact hcd
  · exfalso
    have hS : p.length = c ∨ p.length = d ∨ True := .inr (.inr trivial)
    -- from c one comes to the exit; the exit is reached without c from d, or without d from c
    have key : Reach p [(c : Int)] p.length → ReachA p [(c : Int)] d p.length ∨ ReachA p [(d : Int)] c p.length := by
      intro h
      have hk : ∀ k, Reach p [(c : Int)] k → ReachA p [(c : Int)] d k ∨ ReachA p [(d : Int)] c k := fun k hk =>
        hk (fun k => ReachA p [(c : Int)] d k ∨ ReachA p [(d : Int)] c k) (fun m hm => by
          rw [List.mem_singleton] at hm
          obtain rfl : m = c := by omega
          exact .inl (ReachA.start (by simp) (by omega))) (fun k hk m hm => by
          by_cases e1 : m = d
          · subst e1; exact .inr (ReachA.start (by simp) (by omega))
          · by_cases e2 : m = c
            · subst e2; exact .inl (ReachA.start (by simp) (by omega))
            · rcases hk with hk | hk
              · exact .inl (hk.step hm (by omega))
              · exact .inr (hk.step hm (by omega)))
      exact hk _ h
    rcases key hr with k | k
    · exact h1 k
    · exact h2 k

/-- In a row of nodes behind a there is one that all others are behind. -/
theorem After.first {p : List I4} {a : Nat} (hr : Reach p [(a : Int)] p.length) : ∀ {xs : List Nat}, xs ≠ [] → (∀ x ∈ xs, After p a x) → ∃ f ∈ xs, ∀ x ∈ xs, After p f x
  | [], h, _ => absurd rfl h
  | [x], _, _ => ⟨x, by simp, fun y hy => by rw [List.mem_singleton] at hy; subst hy; exact After.self p y⟩
  | x :: y :: xs, _, h => by
    obtain ⟨f, hf, hfa⟩ := After.first hr (xs := y :: xs) (by simp) (fun z hz => h z (List.mem_cons_of_mem _ hz))
    rcases After.total hr (h x (by simp)) (h f (List.mem_cons_of_mem _ hf)) with h1 | h1
    · refine ⟨x, by simp, fun z hz => ?_⟩
      rcases List.mem_cons.1 hz with rfl | hz
      · exact After.self p z
      · exact h1.trans (hfa z hz)
    · refine ⟨f, List.mem_cons_of_mem _ hf, fun z hz => ?_⟩
      rcases List.mem_cons.1 hz with rfl | hz
      · exact h1
      · exact hfa z hz

/-- Behind a branch, other than itself: behind both of its successors. -/
theorem After.next {p : List I4} {b : Nat} {c : Int} (hb : b < p.length) (hc : (b : Int) ≠ c) : After p b c ↔ ∀ m : Nat, (m : Int) ∈ nextL p b → After p m c := by
  unfold After
  rw [ReachA.step_iff]
  constructor
  · intro h m hm hr
    exact h ⟨hc, .inr (ReachA.split.2 ⟨m, hm, hr⟩)⟩
  · rintro h ⟨_, e | hr⟩
    · omega
    · obtain ⟨m, hm, hr⟩ := ReachA.split.1 hr
      exact h m hm hr

/-- A node that reaches the exit isn't behind all of its successors. -/
theorem After.leaves {p : List I4} {b : Nat} (hb : b < p.length) (hr : Reach p [(b : Int)] p.length) : ¬ ∀ m : Nat, (m : Int) ∈ nextL p b → After p m b := by
  intro h
  have key : b = p.length ∨ ReachA p (nextL p b) b p.length := hr (fun k => b = k ∨ ReachA p (nextL p b) b k) (fun m hm => by
      rw [List.mem_singleton] at hm
      exact .inl (by omega)) (fun k hk m hm => by
      by_cases e : m = b
      · exact .inl e.symm
      · rcases hk with rfl | hk
        · exact .inr (ReachA.start hm (by omega))
        · exact .inr (hk.step hm (by omega)))
  rcases key with e | k
  · omega
  · obtain ⟨m, hm, hr⟩ := ReachA.split.1 k
    exact h m hm hr

end Go.Proofs.Ytbnebghpakllpaa
