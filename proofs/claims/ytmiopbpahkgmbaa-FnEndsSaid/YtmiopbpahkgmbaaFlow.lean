/- Flow graphs in plain words: the successors of a node, and what is reached from some nodes. No program is named here. -/
import Derived.Test.YtmiopbpahkgmbaaAsc
import Derived.Test.YtmiopbpahkgmbaaProgP
namespace Go.Proofs.Ytmiopbpahkgmbaa
open Go.RowKit Go

/-- The successors of instruction k of n. -/
def nextI (n k : Nat) (x : I4) : List Int :=
  if x.o = 12 then [(n : Int)] else if x.o = 11 then [x.b] else if x.o = 10 then ascOf [x.b, (k : Int) + 1] else [(k : Int) + 1]
/-- The successors of a node. -/
def nextL (p : List I4) (k : Nat) : List Int := if h : k < p.length then nextI p.length k p[k] else []

theorem nextL_at {p : List I4} {k : Nat} (h : k < p.length) : nextL p k = nextI p.length k p[k] := by unfold nextL; rw [dif_pos h]
theorem nextL_end (p : List I4) : nextL p p.length = [] := by unfold nextL; rw [dif_neg (by omega)]

theorem nextI_le (n k : Nat) (x : I4) : (nextI n k x).length ≤ 2 := by
  unfold nextI
  repeat' split
  · simp
  · simp
  · exact ascOf_le _
  · simp
theorem nextL_le (p : List I4) (k : Nat) : (nextL p k).length ≤ 2 := by
  unfold nextL
  split
  · exact nextI_le _ _ _
  · simp

theorem okI_b {n : Nat} {x : I4} (h : okI n x = true) (ho : x.o = 10 ∨ x.o = 11) : 0 ≤ x.b ∧ x.b ≤ n := by
  unfold okI insOk at h
  split at h
  · rw [Bool.and_eq_true, Bool.and_eq_true] at h
    have hb := h.1.2
    unfold chB at hb
    rw [if_neg (by omega), if_pos (by omega)] at hb
    exact inO_iff.1 hb
  · exact absurd h (by simp)
theorem progOk_at {p : List I4} (h : progOk p = true) {k : Nat} (hk : k < p.length) : okI p.length p[k] = true := by
  unfold progOk at h
  rw [List.all_eq_true] at h
  exact h _ (List.getElem_mem hk)

theorem nextI_rng {n k : Nat} {x : I4} (hk : k < n) (h : okI n x = true) : ∀ m ∈ nextI n k x, 0 ≤ m ∧ m ≤ n := by
  intro m hm
  unfold nextI at hm
  split at hm
  · rw [List.mem_singleton] at hm; omega
  · split at hm
    · rename_i h1 h2
      have := okI_b h (.inr h2)
      rw [List.mem_singleton] at hm; omega
    · split at hm
      · rename_i h1 h2 h3
        have := okI_b h (.inl h3)
        have := ((ascOf_asc _).2 m).1 hm
        simp only [List.mem_cons, List.not_mem_nil, or_false] at this
        omega
      · rw [List.mem_singleton] at hm; omega
theorem nextL_rng {p : List I4} (h : progOk p = true) (k : Nat) : ∀ m ∈ nextL p k, 0 ≤ m ∧ m ≤ p.length := by
  unfold nextL
  split
  · rename_i hk; exact nextI_rng hk (progOk_at h hk)
  · intro m hm; simp at hm
theorem rng_i64 {n : Nat} {xs : List Int} (hn : n ≤ 10000000) (h : ∀ m ∈ xs, 0 ≤ m ∧ m ≤ n) : ∀ m ∈ xs, i64R m := fun m hm => by
  have := h m hm
  unfold i64R
  omega

/-- What belongs to a set, its successors belong to. -/
def Closed (p : List I4) (S : Nat → Prop) : Prop := ∀ k, S k → ∀ m : Nat, (m : Int) ∈ nextL p k → S m
/-- Reached from some nodes by zero or more steps. -/
def Reach (p : List I4) (us : List Int) (b : Nat) : Prop := ∀ S : Nat → Prop, (∀ m : Nat, (m : Int) ∈ us → S m) → Closed p S → S b

theorem Reach.start {p : List I4} {us : List Int} {m : Nat} (h : (m : Int) ∈ us) : Reach p us m := fun _ h0 _ => h0 m h
theorem Reach.closed (p : List I4) (us : List Int) : Closed p (Reach p us) := fun k hk m hm S h0 hS => hS k (hk S h0 hS) m hm
theorem Reach.le {p : List I4} {us : List Int} {b : Nat} (hp : progOk p = true) (hu : ∀ u ∈ us, u ≤ p.length) (h : Reach p us b) : b ≤ p.length :=
  h (fun k => k ≤ p.length) (fun m hm => by have := hu _ hm; omega) (fun k _ m hm => by have := nextL_rng hp k _ hm; omega)
theorem Reach.of {p : List I4} {us vs : List Int} {b : Nat} (h : Reach p us b) (hu : ∀ m : Nat, (m : Int) ∈ us → Reach p vs m) : Reach p vs b :=
  h _ hu (Reach.closed p vs)
theorem Reach.split {p : List I4} {us : List Int} {b : Nat} : Reach p us b ↔ ∃ u : Nat, (u : Int) ∈ us ∧ Reach p [(u : Int)] b := by
  constructor
  · intro h
    refine h (fun b => ∃ u : Nat, (u : Int) ∈ us ∧ Reach p [(u : Int)] b) (fun m hm => ⟨m, hm, Reach.start (by simp)⟩) ?_
    rintro k ⟨u, hu, hr⟩ m hm
    exact ⟨u, hu, Reach.closed p _ k hr m hm⟩
  · rintro ⟨u, hu, hr⟩
    refine hr.of fun m hm => ?_
    rw [List.mem_singleton] at hm
    obtain rfl : m = u := by omega
    exact Reach.start hu

/-- Marks that say what is reached. -/
def IsReach (p : List I4) (us : List Int) (f : Nat → Bool) : Prop := ∀ k, f k = true ↔ Reach p us k
theorem exists_reach (p : List I4) (us : List Int) : ∃ f, IsReach p us f :=
  ⟨fun k => @decide (Reach p us k) (Classical.propDecidable _), fun k => @decide_eq_true_iff (Reach p us k) (Classical.propDecidable _)⟩

/-- The marked nodes below k. -/
def nodesTo (f : Nat → Bool) (k : Nat) : List Int := ((List.range k).filter f).map fun i : Nat => (i : Int)
theorem nodesTo_yes {f : Nat → Bool} {k : Nat} (h : f k = true) : nodesTo f (k + 1) = nodesTo f k ++ [(k : Int)] := by
  unfold nodesTo; rw [List.range_succ, List.filter_append, List.map_append]; simp [h]
theorem nodesTo_no {f : Nat → Bool} {k : Nat} (h : f k = false) : nodesTo f (k + 1) = nodesTo f k := by
  unfold nodesTo; rw [List.range_succ, List.filter_append, List.map_append]; simp [h]
theorem nodesTo_le (f : Nat → Bool) (k : Nat) : (nodesTo f k).length ≤ k := by
  unfold nodesTo; rw [List.length_map]; have := List.length_filter_le f (List.range k); rw [List.length_range] at this; exact this
theorem nodesTo_more {f : Nat → Bool} {m : Nat} (h : ∀ k, m ≤ k → f k = false) : ∀ d, nodesTo f (m + d) = nodesTo f m
  | 0 => rfl
  | d + 1 => by rw [← Nat.add_assoc, nodesTo_no (h _ (by omega)), nodesTo_more h d]
theorem nodesTo_mem {f : Nat → Bool} {k : Nat} {x : Int} : x ∈ nodesTo f k ↔ ∃ i : Nat, i < k ∧ f i = true ∧ x = i := by
  unfold nodesTo
  simp only [List.mem_map, List.mem_filter, List.mem_range]
  constructor
  · rintro ⟨i, ⟨h1, h2⟩, rfl⟩; exact ⟨i, h1, h2, rfl⟩
  · rintro ⟨i, h1, h2, rfl⟩; exact ⟨i, ⟨h1, h2⟩, rfl⟩
theorem nodesTo_rng (f : Nat → Bool) (k : Nat) (hk : k ≤ 1000000) : ∀ x ∈ nodesTo f k, i64R x := fun x hx => by
  obtain ⟨i, h1, _, rfl⟩ := nodesTo_mem.1 hx
  unfold i64R; omega

theorem getD_set {bs : List Bool} {m : Nat} (hm : m < bs.length) (k : Nat) : (bs.set m true).getD k false = (if k = m then true else bs.getD k false) := by
  rw [List.getD_eq_getElem?_getD, List.getD_eq_getElem?_getD, List.getElem?_set]
  by_cases h : m = k
  · subst h; simp [hm]
  · rw [if_neg h, if_neg (fun e => h e.symm)]
theorem count_set {bs : List Bool} {m : Nat} (hm : m < bs.length) (h : bs.getD m false = false) : (bs.set m true).count true = bs.count true + 1 := by
  rw [List.count_set hm]
  rw [List.getD_eq_getElem?_getD, List.getElem?_eq_getElem hm] at h
  have h' : bs[m] = false := h
  simp [h']

/-- A node found by the program: the nodes found so far, in their order, and their marks; of the first j all successors are found. -/
structure Found (p : List I4) (us : List Int) (bs : List Bool) (xs : List Int) (j : Nat) : Prop where
  len : bs.length = 33
  cnt : xs.length = bs.count true
  mem : ∀ k : Nat, bs.getD k false = true ↔ (k : Int) ∈ xs
  rng : ∀ x ∈ xs, 0 ≤ x ∧ x ≤ p.length
  sound : ∀ k : Nat, (k : Int) ∈ xs → Reach p us k
  start : ∀ u ∈ us, u ∈ xs
  done : ∀ i (_ : i < j) (_ : i < xs.length), ∀ m ∈ nextL p (xs[i]).toNat, m ∈ xs
  le : j ≤ xs.length

theorem Found.most {p : List I4} {us : List Int} {bs : List Bool} {xs : List Int} {j : Nat} (h : Found p us bs xs j) : xs.length ≤ 33 := by
  have := List.count_le_length (a := true) (l := bs)
  rw [h.cnt, ← h.len]; exact this

theorem Found.first {p : List I4} {a : Nat} (hp : progOk p = true) (ha : a ≤ p.length) : Found p [(a : Int)] ((List.replicate 33 false).set a true) [(a : Int)] 0 := by
  have h32 := progOk_len hp
  have hlen : a < (List.replicate 33 false).length := by rw [List.length_replicate]; omega
  have hfalse : ∀ k, (List.replicate 33 false).getD k false = false := by
    intro k
    rw [List.getD_eq_getElem?_getD, List.getElem?_replicate]
    split <;> rfl
  refine ⟨by simp, ?_, ?_, ?_, ?_, ?_, fun i h => absurd h (by omega), Nat.zero_le _⟩
  · rw [count_set hlen (hfalse a)]; simp
  · intro k
    rw [getD_set hlen, List.mem_singleton]
    by_cases hk : k = a
    · subst hk; simp
    · rw [if_neg hk, hfalse]
      constructor
      · intro h; cases h
      · intro h; omega
  · intro x hx; rw [List.mem_singleton] at hx; omega
  · intro k hk; exact Reach.start hk
  · intro u hu; exact hu

theorem Found.more {p : List I4} {us : List Int} {bs : List Bool} {xs : List Int} {j m : Nat} (h : Found p us bs xs j) (hp : progOk p = true) (hj : j < xs.length) (hm : (m : Int) ∈ nextL p (xs[j]).toNat) (hn : bs.getD m false = false) :
    Found p us (bs.set m true) (xs ++ [(m : Int)]) j := by
  have h32 := progOk_len hp
  have hr := nextL_rng hp _ _ hm
  have hlen : m < bs.length := by rw [h.len]; omega
  refine ⟨by rw [List.length_set]; exact h.len, ?_, ?_, ?_, ?_, ?_, ?_, by rw [List.length_append]; have := h.le; omega⟩
  · rw [count_set hlen hn, List.length_append, h.cnt]; rfl
  · intro k
    rw [getD_set hlen, List.mem_append, List.mem_singleton]
    by_cases hk : k = m
    · subst hk; simp
    · rw [if_neg hk, h.mem]
      constructor
      · exact .inl
      · rintro (h1 | h1)
        · exact h1
        · omega
  · intro x hx
    rw [List.mem_append, List.mem_singleton] at hx
    rcases hx with hx | rfl
    · exact h.rng x hx
    · exact hr
  · intro k hk
    rw [List.mem_append, List.mem_singleton] at hk
    rcases hk with hk | hk
    · exact h.sound k hk
    · obtain rfl : k = m := by omega
      have hx := h.rng _ (List.getElem_mem hj)
      refine Reach.closed p us (xs[j]).toNat (h.sound _ ?_) _ hm
      rw [Int.toNat_of_nonneg hx.1]
      exact List.getElem_mem hj
  · intro u hu; exact List.mem_append_left _ (h.start u hu)
  · intro i hi hi2 x hx
    have hi3 : i < xs.length := by have := h.le; omega
    rw [List.getElem_append_left hi3] at hx
    exact List.mem_append_left _ (h.done i hi hi3 x hx)

theorem Found.next {p : List I4} {us : List Int} {bs : List Bool} {xs : List Int} {j : Nat} (h : Found p us bs xs j) (hj : j < xs.length) (hd : ∀ m ∈ nextL p (xs[j]).toNat, m ∈ xs) : Found p us bs xs (j + 1) :=
  ⟨h.len, h.cnt, h.mem, h.rng, h.sound, h.start, fun i hi hi2 => by
    rcases Nat.lt_or_ge i j with h1 | h1
    · exact h.done i h1 hi2
    · obtain rfl : i = j := by omega
      exact hd, hj⟩

/-- When all that was found has been followed, the marks say what is reached. -/
theorem Found.all {p : List I4} {us : List Int} {bs : List Bool} {xs : List Int} {f : Nat → Bool} (h : Found p us bs xs xs.length) (hf : IsReach p us f) : bs = (List.range 33).map f := by
  have key : ∀ k, Reach p us k → (k : Int) ∈ xs := fun k hk =>
    hk (fun k => (k : Int) ∈ xs) (fun m hm => h.start _ hm) (fun k hk m hm => by
      obtain ⟨i, hi, e⟩ := List.getElem_of_mem hk
      refine h.done i hi hi _ ?_
      rw [e]
      simpa using hm)
  apply List.ext_getElem
  · rw [h.len, List.length_map, List.length_range]
  · intro k h1 h2
    rw [List.getElem_map, List.getElem_range]
    have e : bs.getD k false = bs[k] := by rw [List.getD_eq_getElem?_getD, List.getElem?_eq_getElem h1]; rfl
    have h3 := h.mem k
    rw [e] at h3
    rw [Bool.eq_iff_iff, h3, hf k]
    exact ⟨h.sound k, key k⟩

/-- The model's search: the marks so far, and the nodes that wait. -/
structure Seek (p : List I4) (us : List Int) (bs : List Bool) (ys : List Int) : Prop where
  len : bs.length = p.length + 1
  rng : ∀ y ∈ ys, 0 ≤ y ∧ y ≤ p.length
  sound : ∀ k : Nat, bs.getD k false = true → Reach p us k
  wait : ∀ k : Nat, (k : Int) ∈ ys → Reach p us k
  start : ∀ m : Nat, (m : Int) ∈ us → bs.getD m false = true ∨ (m : Int) ∈ ys
  closed : ∀ k : Nat, bs.getD k false = true → ∀ m : Nat, (m : Int) ∈ nextL p k → bs.getD m false = true ∨ (m : Int) ∈ ys
  size : ys.length ≤ us.length + 2 * bs.count true

/-- How long it can go on. -/
def seekG (p : List I4) (bs : List Bool) (ys : List Int) : Nat := 3 * (p.length + 1 - bs.count true) + ys.length

theorem Seek.first {p : List I4} {us : List Int} (hu : ∀ u ∈ us, 0 ≤ u ∧ u ≤ p.length) : Seek p us (List.replicate (p.length + 1) false) us := by
  have hfalse : ∀ k, (List.replicate (p.length + 1) false).getD k false = false := by
    intro k
    rw [List.getD_eq_getElem?_getD, List.getElem?_replicate]
    split <;> rfl
  refine ⟨by simp, hu, fun k hk => ?_, fun k hk => Reach.start hk, fun m hm => .inr hm, fun k hk => ?_, by omega⟩
  · rw [hfalse] at hk; cases hk
  · rw [hfalse] at hk; cases hk

theorem Seek.old {p : List I4} {us : List Int} {bs : List Bool} {y : Nat} {ys : List Int} (h : Seek p us bs ((y : Int) :: ys)) (hy : bs.getD y false = true) : Seek p us bs ys := by
  have key : ∀ m : Nat, bs.getD m false = true ∨ (m : Int) ∈ (y : Int) :: ys → bs.getD m false = true ∨ (m : Int) ∈ ys := by
    rintro m (h1 | h1)
    · exact .inl h1
    · rcases List.mem_cons.1 h1 with h2 | h2
      · obtain rfl : m = y := by omega
        exact .inl hy
      · exact .inr h2
  exact ⟨h.len, fun x hx => h.rng x (List.mem_cons_of_mem _ hx), h.sound, fun k hk => h.wait k (List.mem_cons_of_mem _ hk), fun m hm => key m (h.start m hm), fun k hk m hm => key m (h.closed k hk m hm), by have := h.size; simp at this; omega⟩

theorem Seek.new {p : List I4} {us : List Int} {bs : List Bool} {y : Nat} {ys : List Int} (hp : progOk p = true) (h : Seek p us bs ((y : Int) :: ys)) (hy : bs.getD y false = false) : Seek p us (bs.set y true) (ys ++ nextL p y) := by
  have hr := h.rng y (by simp)
  have hlen : y < bs.length := by rw [h.len]; omega
  have hle := nextL_le p y
  have key : ∀ m : Nat, bs.getD m false = true ∨ (m : Int) ∈ (y : Int) :: ys → (bs.set y true).getD m false = true ∨ (m : Int) ∈ ys ++ nextL p y := by
    intro m hm
    rw [getD_set hlen]
    by_cases e : m = y
    · rw [if_pos e]; exact .inl rfl
    · rw [if_neg e]
      rcases hm with h1 | h1
      · exact .inl h1
      · rcases List.mem_cons.1 h1 with h2 | h2
        · omega
        · exact .inr (List.mem_append_left _ h2)
  refine ⟨by rw [List.length_set]; exact h.len, fun x hx => ?_, fun k hk => ?_, fun k hk => ?_, fun m hm => key m (h.start m hm), fun k hk m hm => ?_, ?_⟩
  · rcases List.mem_append.1 hx with h1 | h1
    · exact h.rng x (List.mem_cons_of_mem _ h1)
    · exact nextL_rng hp _ x h1
  · rw [getD_set hlen] at hk
    by_cases e : k = y
    · subst e; exact h.wait k (by simp)
    · rw [if_neg e] at hk; exact h.sound k hk
  · rcases List.mem_append.1 hk with h1 | h1
    · exact h.wait k (List.mem_cons_of_mem _ h1)
    · exact Reach.closed p us y (h.wait y (by simp)) k h1
  · rw [getD_set hlen] at hk
    by_cases e : k = y
    · subst e; exact .inr (List.mem_append_right _ hm)
    · rw [if_neg e] at hk; exact key m (h.closed k hk m hm)
  · have h1 := h.size
    rw [count_set hlen hy, List.length_append]
    simp only [List.length_cons] at h1
    omega

theorem Seek.count {p : List I4} {us : List Int} {bs : List Bool} {ys : List Int} (h : Seek p us bs ys) : bs.count true ≤ p.length + 1 := by
  have := List.count_le_length (a := true) (l := bs)
  rw [← h.len]; exact this

theorem seekG_old {p : List I4} {bs : List Bool} {y : Int} {ys : List Int} {g : Nat} (h : seekG p bs (y :: ys) ≤ g + 1) : seekG p bs ys ≤ g := by
  unfold seekG at *
  rw [List.length_cons] at h
  omega
theorem seekG_new {p : List I4} {us : List Int} {bs : List Bool} {y : Nat} {ys : List Int} {g : Nat} (hs : Seek p us bs ((y : Int) :: ys)) (hy : bs.getD y false = false) (h : seekG p bs ((y : Int) :: ys) ≤ g + 1) : seekG p (bs.set y true) (ys ++ nextL p y) ≤ g := by
  have hr := hs.rng y (by simp)
  have hlen : y < bs.length := by rw [hs.len]; omega
  have hle := nextL_le p y
  have hc : (bs.set y true).count true ≤ p.length + 1 := by
    have := List.count_le_length (a := true) (l := bs.set y true)
    rw [List.length_set, hs.len] at this; exact this
  unfold seekG at *
  rw [count_set hlen hy] at *
  rw [List.length_append]
  rw [List.length_cons] at h
  omega

/-- When none waits, the marks say what is reached. -/
theorem Seek.all {p : List I4} {us : List Int} {bs : List Bool} {f : Nat → Bool} (h : Seek p us bs []) (hf : IsReach p us f) : bs = (List.range (p.length + 1)).map f := by
  have key : ∀ k, Reach p us k → bs.getD k false = true := fun k hk =>
    hk (fun k => bs.getD k false = true) (fun m hm => by simpa using h.start m hm) (fun k hk m hm => by simpa using h.closed k hk m hm)
  apply List.ext_getElem
  · rw [h.len, List.length_map, List.length_range]
  · intro k h1 h2
    rw [List.getElem_map, List.getElem_range]
    have e : bs.getD k false = bs[k] := by rw [List.getD_eq_getElem?_getD, List.getElem?_eq_getElem h1]; rfl
    rw [← e, Bool.eq_iff_iff, hf k]
    exact ⟨h.sound k, key k⟩

end Go.Proofs.Ytmiopbpahkgmbaa
