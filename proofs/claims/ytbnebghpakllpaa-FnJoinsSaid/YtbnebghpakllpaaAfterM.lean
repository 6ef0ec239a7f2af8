/- Post-dominators: what the laws say of the answers, in plain words. -/
import Derived.Test.YtbnebghpakllpaaAfterU
namespace Go.Proofs.Ytbnebghpakllpaa
open Go.RowKit Go

theorem afters_mem {p : List I4} {R : List Int → Nat → Bool} {RA : List Int → Int → Nat → Bool} (hRA : AllAvoid p RA) {a : Nat} (hx : exitQ p R a = true) {x : Int} : x ∈ aftersQ p R RA a ↔ ∃ c : Nat, c ≤ p.length ∧ x = c ∧ After p a c := by
  unfold aftersQ
  rw [if_pos hx, nodesTo_mem]
  constructor
  · rintro ⟨i, hi, hf, rfl⟩
    exact ⟨i, by omega, rfl, (aftB_iff hRA).1 hf⟩
  · rintro ⟨c, hc, rfl, ha⟩
    exact ⟨c, by omega, (aftB_iff hRA).2 ha, rfl⟩
theorem afters_none {p : List I4} {R : List Int → Nat → Bool} {RA : List Int → Int → Nat → Bool} {a : Int} (hx : exitQ p R a = false) : aftersQ p R RA a = [] := by
  unfold aftersQ
  rw [if_neg (by rw [hx]; simp)]
theorem first_none {p : List I4} {R : List Int → Nat → Bool} {RA : List Int → Int → Nat → Bool} {a : Int} (hx : exitQ p R a = false) : firstQ p R RA a = -1 := by
  unfold firstQ
  rw [afters_none hx]
  rfl
theorem exit_reach {p : List I4} {R : List Int → Nat → Bool} (hR : AllReach p R) {a : Nat} (hx : exitQ p R a = true) : progOk p = true ∧ a ≤ p.length ∧ Reach p [(a : Int)] p.length := by
  unfold exitQ at hx
  obtain ⟨h1, h2⟩ := Bool.and_eq_true_iff.1 hx
  obtain ⟨hp, h0, hn⟩ := nodeOk_iff.1 h1
  exact ⟨hp, by omega, (hR _ _).1 h2⟩
theorem exit_of {p : List I4} {R : List Int → Nat → Bool} (hR : AllReach p R) {a : Nat} (hp : progOk p = true) (ha : a ≤ p.length) (h : Reach p [(a : Int)] p.length) : exitQ p R a = true := by
  unfold exitQ
  rw [nodeOk_iff.2 ⟨hp, by omega, by omega⟩, Bool.true_and]
  exact (hR _ _).2 h

/-- Of nodes behind a the first is one from which all others are after. -/
theorem firstL_some {p : List I4} {RA : List Int → Int → Nat → Bool} (hRA : AllAvoid p RA) {a : Nat} (hr : Reach p [(a : Int)] p.length) {xs : List Int} (hne : xs ≠ []) (hx : ∀ x ∈ xs, ∃ c : Nat, x = c ∧ After p a c) :
    ∃ f : Nat, firstL p RA xs = f ∧ (f : Int) ∈ xs ∧ ∀ y ∈ xs, After p f y := by
  have hmap : ∀ zs : List Int, (∀ x ∈ zs, ∃ c : Nat, x = c ∧ After p a c) → ∃ cs : List Nat, zs = cs.map (fun c : Nat => (c : Int)) ∧ ∀ c ∈ cs, After p a c := by
    intro zs
    induction zs with
    | nil => intro _; exact ⟨[], rfl, fun c hc => by cases hc⟩
    | cons z zs ih =>
      intro h
      obtain ⟨c, rfl, hc⟩ := h z (by simp)
      obtain ⟨cs, rfl, hcs⟩ := ih (fun x hx => h x (List.mem_cons_of_mem _ hx))
      exact ⟨c :: cs, rfl, fun d hd => by
        rcases List.mem_cons.1 hd with rfl | hd
        · exact hc
        · exact hcs d hd⟩
  obtain ⟨cs, rfl, hcs⟩ := hmap xs hx
  obtain ⟨f, hf, hfa⟩ := After.first hr (xs := cs) (by intro e; subst e; exact hne rfl) hcs
  have hall : ((cs.map fun c : Nat => (c : Int)).all fun y => aftB p RA (f : Int) y) = true := by
    rw [List.all_eq_true]
    intro y hy
    obtain ⟨c, hc, rfl⟩ := List.mem_map.1 hy
    exact (aftB_iff hRA).2 (hfa c hc)
  have hsome : ((cs.map fun c : Nat => (c : Int)).find? fun x => (cs.map fun c : Nat => (c : Int)).all fun y => aftB p RA x y).isSome = true := by
    rw [List.find?_isSome]
    exact ⟨f, List.mem_map.2 ⟨f, hf, rfl⟩, hall⟩
  obtain ⟨g, hg⟩ := Option.isSome_iff_exists.1 hsome
  have hgm := List.mem_of_find?_eq_some hg
  have hga := List.find?_some hg
  obtain ⟨c, hc, rfl⟩ := List.mem_map.1 hgm
  refine ⟨c, ?_, hgm, fun y hy => ?_⟩
  · unfold firstL
    rw [hg]
    rfl
  · rw [List.all_eq_true] at hga
    exact (aftB_iff hRA).1 (hga y hy)

/-- FirstAfter of a node that reaches the exit and isn't it. -/
theorem first_some {p : List I4} {R : List Int → Nat → Bool} {RA : List Int → Int → Nat → Bool} (hR : AllReach p R) (hRA : AllAvoid p RA) {a : Nat} (hx : exitQ p R a = true) (hne : a ≠ p.length) :
    ∃ f : Nat, firstQ p R RA a = f ∧ f ≠ a ∧ f ≤ p.length ∧ After p a f ∧ ∀ c : Nat, c ≤ p.length → c ≠ a → After p a c → After p f c := by
  obtain ⟨hp, ha, hr⟩ := exit_reach hR hx
  have hmem : ∀ x, x ∈ othersL (aftersQ p R RA a) a ↔ ∃ c : Nat, c ≤ p.length ∧ x = c ∧ After p a c ∧ c ≠ a := by
    intro x
    rw [others_mem, afters_mem hRA hx]
    constructor
    · rintro ⟨⟨c, h1, rfl, h2⟩, h3⟩; exact ⟨c, h1, rfl, h2, by omega⟩
    · rintro ⟨c, h1, rfl, h2, h3⟩; exact ⟨⟨c, h1, rfl, h2⟩, by omega⟩
  have hn : (p.length : Int) ∈ othersL (aftersQ p R RA a) a := (hmem _).2 ⟨p.length, Nat.le_refl _, rfl, After.exit p a, fun e => hne e.symm⟩
  obtain ⟨f, e, hf, hall⟩ := firstL_some hRA hr (xs := othersL (aftersQ p R RA a) a) (fun e => by rw [e] at hn; cases hn) (fun x hx => by
    obtain ⟨c, _, h1, h2, _⟩ := (hmem x).1 hx
    exact ⟨c, h1, h2⟩)
  obtain ⟨c, hc, ec, hac, hca⟩ := (hmem _).1 hf
  obtain rfl : f = c := by omega
  exact ⟨f, e, hca, hc, hac, fun d hd hda hd2 => hall _ ((hmem _).2 ⟨d, hd, rfl, hd2, hda⟩)⟩
theorem first_exit {p : List I4} {R : List Int → Nat → Bool} {RA : List Int → Int → Nat → Bool} (hRA : AllAvoid p RA) (hx : exitQ p R p.length = true) : firstQ p R RA p.length = -1 := by
  have h1 : othersL (aftersQ p R RA p.length) p.length = [] := by
    rw [List.eq_nil_iff_forall_not_mem]
    intro x hm
    rw [others_mem, afters_mem hRA hx] at hm
    obtain ⟨⟨c, hc, rfl, ha⟩, hne⟩ := hm
    have hcn : c ≠ p.length := by omega
    refine ha (ReachA.start (by simp) ?_)
    omega
  unfold firstQ
  rw [h1]
  rfl

/-- IsAfter, of nodes. -/
theorem after_iff {p : List I4} {R : List Int → Nat → Bool} {RA : List Int → Int → Nat → Bool} (hRA : AllAvoid p RA) {a c : Nat} (hx : exitQ p R a = true) (hc : c ≤ p.length) (h : After p a c) : afterQ p R RA a c = true := by
  have hx' := hx
  unfold exitQ at hx'
  obtain ⟨h1, h2⟩ := Bool.and_eq_true_iff.1 hx'
  unfold afterQ
  rw [h1, h2, (aftB_iff hRA).2 h]
  simp
  omega
/-- From the first node behind a to all others behind a. -/
theorem after_first {p : List I4} {R : List Int → Nat → Bool} {RA : List Int → Int → Nat → Bool} (hR : AllReach p R) (hRA : AllAvoid p RA) {a f c : Nat} (hx : exitQ p R a = true) (hf : f ≤ p.length) (haf : After p a f) (hc : c ≤ p.length) (h : After p f c) : afterQ p R RA f c = true := by
  obtain ⟨hp, _, hr⟩ := exit_reach hR hx
  exact after_iff hRA (exit_of hR hp hf (haf.reaches hr).1) hc h

theorem nodesTo_asc (f : Nat → Bool) : ∀ k, Asc (nodesTo f k)
  | 0 => by unfold nodesTo Asc; simp
  | k + 1 => by
    cases h : f k with
    | true =>
      rw [nodesTo_yes h]
      refine List.pairwise_append.2 ⟨nodesTo_asc f k, by simp, fun x hx y hy => ?_⟩
      rw [List.mem_singleton] at hy
      obtain ⟨i, hi, _, rfl⟩ := nodesTo_mem.1 hx
      omega
    | false => rw [nodesTo_no h]; exact nodesTo_asc f k
theorem afters_asc (p : List I4) (R : List Int → Nat → Bool) (RA : List Int → Int → Nat → Bool) (a : Int) : Asc (aftersQ p R RA a) := by
  unfold aftersQ
  split
  · exact nodesTo_asc _ _
  · unfold Asc; simp
theorem asc_filter {xs : List Int} {f : Int → Bool} (h : Asc xs) : Asc (xs.filter f) := h.sublist List.filter_sublist
theorem both_comm (p : List I4) (R : List Int → Nat → Bool) (RA : List Int → Int → Nat → Bool) (a b : Int) : bothL (aftersQ p R RA a) (aftersQ p R RA b) = bothL (aftersQ p R RA b) (aftersQ p R RA a) :=
  asc_ext (asc_filter (afters_asc p R RA a)) (asc_filter (afters_asc p R RA b)) fun x => by rw [both_mem, both_mem]; exact And.comm
theorem meets_comm (p : List I4) (R : List Int → Nat → Bool) (RA : List Int → Int → Nat → Bool) (a b : Int) : meetsQ p R RA a b = meetsQ p R RA b a := by
  unfold meetsQ
  rw [both_comm]
theorem meets_none {p : List I4} {R : List Int → Nat → Bool} {RA : List Int → Int → Nat → Bool} {a b : Int} (h : exitQ p R a = false ∨ exitQ p R b = false) : meetsQ p R RA a b = -1 := by
  rcases h with h | h
  · unfold meetsQ
    rw [afters_none h]
    rfl
  · rw [meets_comm]
    unfold meetsQ
    rw [afters_none h]
    rfl
theorem meets_some {p : List I4} {R : List Int → Nat → Bool} {RA : List Int → Int → Nat → Bool} (hR : AllReach p R) (hRA : AllAvoid p RA) {a b : Nat} (ha : exitQ p R a = true) (hb : exitQ p R b = true) :
    ∃ m : Nat, meetsQ p R RA a b = m ∧ m ≤ p.length ∧ After p a m ∧ After p b m ∧ ∀ c : Nat, c ≤ p.length → After p a c → After p b c → After p m c := by
  obtain ⟨hp, _, hr⟩ := exit_reach hR ha
  have hmem : ∀ x, x ∈ bothL (aftersQ p R RA a) (aftersQ p R RA b) ↔ ∃ c : Nat, c ≤ p.length ∧ x = c ∧ After p a c ∧ After p b c := by
    intro x
    rw [both_mem, afters_mem hRA ha, afters_mem hRA hb]
    constructor
    · rintro ⟨⟨c, h1, rfl, h2⟩, ⟨d, _, e, h3⟩⟩
      obtain rfl : c = d := by omega
      exact ⟨c, h1, rfl, h2, h3⟩
    · rintro ⟨c, h1, rfl, h2, h3⟩
      exact ⟨⟨c, h1, rfl, h2⟩, ⟨c, h1, rfl, h3⟩⟩
  have hn : (p.length : Int) ∈ bothL (aftersQ p R RA a) (aftersQ p R RA b) := (hmem _).2 ⟨p.length, Nat.le_refl _, rfl, After.exit p a, After.exit p b⟩
  obtain ⟨f, e, hf, hall⟩ := firstL_some hRA hr (xs := bothL (aftersQ p R RA a) (aftersQ p R RA b)) (fun e => by rw [e] at hn; cases hn) (fun x hx => by
    obtain ⟨c, _, h1, h2, _⟩ := (hmem x).1 hx
    exact ⟨c, h1, h2⟩)
  obtain ⟨c, hc, ec, h1, h2⟩ := (hmem _).1 hf
  obtain rfl : f = c := by omega
  exact ⟨f, e, hc, h1, h2, fun d hd k1 k2 => hall _ ((hmem _).2 ⟨d, hd, rfl, k1, k2⟩)⟩

/-- The two successors of a branch. -/
theorem branch_two {p : List I4} {b : Nat} (h : isBr p b = true) : ∃ x y : Int, nextL p b = [x, y] ∧ b < p.length := by
  unfold isBr at h
  have h2 : (nextL p b).length = 2 := eq_of_beq h
  rcases Nat.lt_or_ge b p.length with hb | hb
  · match hn : nextL p b, h2 with
    | [x, y], _ => exact ⟨x, y, rfl, hb⟩
  · unfold nextL at h2
    rw [dif_neg (by omega)] at h2
    simp at h2

end Go.Proofs.Ytbnebghpakllpaa
