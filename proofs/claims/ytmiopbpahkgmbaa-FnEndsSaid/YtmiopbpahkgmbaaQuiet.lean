/- Drawn programs that end: what holds while one is drawn. -/
import Derived.Test.YtmiopbpahkgmbaaDrawIns
import Derived.Test.YtmiopbpahkgmbaaProgP
import Derived.Test.YtmiopbpahkgmbaaProgsMore
namespace Go.Proofs.Ytmiopbpahkgmbaa
open Go.RowKit Go

theorem okI_mono {s s' : Nat} {i : I4} (h : okI s i = true) (hs : s ≤ s') (h32 : s' ≤ 32) : okI s' i = true := by
  unfold okI at *
  unfold insOk at *
  split at h
  · rename_i h0
    rw [if_pos ⟨inO_iff.2 (by omega), h0.2⟩]
    simp only [Bool.and_eq_true] at h ⊢
    refine ⟨⟨h.1.1, ?_⟩, h.2⟩
    have hb := h.1.2
    unfold chB at *
    split at hb
    · rename_i h1; rw [if_pos h1]; exact hb
    · rename_i h1
      rw [if_neg h1]
      split at hb
      · rename_i h2
        rw [if_pos h2]
        have := inO_iff.1 hb
        exact inO_iff.2 (by omega)
      · rename_i h2
        rw [if_neg h2]
        exact hb
  · cases h

/-- While a program is drawn: the cursor, the row that the call owns, its instructions. -/
structure QS (base B : Nat) (W w : World) (v : Value) (n : Nat) (p : List I4) : Prop where
  cur : Cur base w B
  own : OwnP (B + 1) w v n (flat p)
  bel : Below base W w
  len : p.length = n
  ok : ∀ i ∈ p, okI n i = true
  le : n ≤ 32

theorem QS.base {base B : Nat} {W w : World} {v : Value} {n : Nat} {p : List I4} (h : QS base B W w v n p) : base ≤ w.heap.size ∧ B < w.heap.size ∧ base ≤ B := ⟨Nat.le_trans h.cur.1 (Nat.le_of_lt h.cur.lt), h.cur.lt, h.cur.1⟩

theorem QS.drew {base B : Nat} {W w w' : World} {v : Value} {n : Nat} {p : List I4} (h : QS base B W w v n p) (hc : Cur base w' B) (hg : w.grownBy w' (some B)) : QS base B W w' v n p := by
  refine ⟨hc, World.ownsRow.kept h.own hg ?_, h.bel.grown hg h.base.1 (fun k e => by cases e; exact h.base.2.2), h.len, h.ok, h.le⟩
  cases hv : v.ownBlock with
  | none => exact .inl rfl
  | some g =>
    refine .inr fun e => ?_
    have := (World.ownsRow.lt h.own g hv).1
    cases e
    omega
theorem QS.alloc {base B : Nat} {W w : World} {v : Value} {n : Nat} {p : List I4} (h : QS base B W w v n p) (o : Obj) : QS base B W (w.alloc o) v n p :=
  ⟨h.cur.alloc o, OwnP.alloc h.own o, h.bel.alloc h.base.1 o, h.len, h.ok, h.le⟩

/-- Behind an append. -/
theorem QS.app {base B : Nat} {W w w' : World} {v v' : Value} {n : Nat} {p : List I4} (h : QS base B W w v n p) (q : List I4) (o : Obj) (n' : Nat) (hn : n' = n + q.length)
    (ho : OwnP (B + 1) w' v' (n + q.length) (flat p ++ flat q)) (hg : (w.alloc o).grownBy w' v.ownBlock) (hq : ∀ i ∈ q, okI n' i = true) (h32 : n' ≤ 32) : QS base B W w' v' n' (p ++ q) := by
  have h1 := h.alloc o
  subst hn
  have hrow : ∀ k, v.ownBlock = some k → base ≤ k ∧ k ≠ B := fun k e => by
    have h2 := (World.ownsRow.lt h.own k e).1
    have h3 := h.base.2.2
    omega
  refine ⟨h1.cur.kept hg hrow, by rw [flat_append]; exact ho, h1.bel.grown hg h1.base.1 (fun k e => (hrow k e).1), by rw [List.length_append, h.len], fun i hi => ?_, h32⟩
  rcases List.mem_append.1 hi with hi | hi
  · exact okI_mono (h.ok i hi) (by omega) h32
  · exact hq i hi

theorem flat_set (p1 p2 : List I4) (i : I4) (t : Int) : (flat (p1 ++ i :: p2)).set (p1.length * 4 + 2) t = flat (p1 ++ ⟨i.o, i.a, t, i.c⟩ :: p2) := by
  rw [flat_append, flat_append, List.set_append_right _ _ (by rw [flat_len]; omega), flat_len, show p1.length * 4 + 2 - p1.length * 4 = 2 from by omega]
  rfl

theorem okI_target {s : Nat} {i : I4} (ho : i.o = 10 ∨ i.o = 11) (h : okI s i = true) (t : Nat) (ht : t ≤ s) : okI s ⟨i.o, i.a, t, i.c⟩ = true := by
  unfold okI at *
  unfold insOk at *
  split at h
  · rename_i h0
    rw [if_pos h0]
    simp only [Bool.and_eq_true] at h ⊢
    refine ⟨⟨h.1.1, ?_⟩, h.2⟩
    unfold chB
    rw [if_neg (by omega), if_pos ho]
    exact inO_iff.2 (by omega)
  · cases h

/-- Behind a store of a target. -/
theorem QS.target {base B : Nat} {W w : World} {g cap n : Nat} {p1 p2 : List I4} {i : I4} (h : QS base B W w (.slice (some ⟨g, 0, none⟩) n cap) n (p1 ++ i :: p2)) (ho : i.o = 10 ∨ i.o = 11) (t : Nat) (ht : t ≤ n) (at_ : Nat) (hat : at_ = p1.length) :
    QS base B W (w.setCell ⟨g, at_ * 4 + 2, none⟩ (.int .i64 t)) (.slice (some ⟨g, 0, none⟩) n cap) n (p1 ++ ⟨i.o, i.a, t, i.c⟩ :: p2) := by
  subst hat
  have hg := (World.ownsRow.lt h.own g rfl).1
  have hb := h.base.2.2
  have hgr := grownBy_setCell w ⟨g, p1.length * 4 + 2, none⟩ (.int .i64 (t : Int))
  have hrow : ∀ k, some (⟨g, p1.length * 4 + 2, none⟩ : Addr).block = some k → base ≤ k ∧ k ≠ B := fun k e => by
    obtain rfl : g = k := by simpa using e
    omega
  refine ⟨h.cur.kept hgr hrow, by rw [← flat_set]; exact h.own.stored _ _, h.bel.grown hgr h.base.1 (fun k e => (hrow k e).1), by rw [← h.len]; simp, fun j hj => ?_, h.le⟩
  rcases List.mem_append.1 hj with hj | hj
  · exact h.ok j (List.mem_append_left _ hj)
  · rcases List.mem_cons.1 hj with rfl | hj
    · exact okI_target ho (h.ok i (by simp)) t ht
    · exact h.ok j (List.mem_append_right _ (List.mem_cons_of_mem _ hj))
/-- The cells where a target is stored. -/
theorem QS.cell {base B : Nat} {W w : World} {v : Value} {n : Nat} {p : List I4} (h : QS base B W w v n p) (k : Nat) (hk : k < n) : ∃ g cap, v = .slice (some ⟨g, 0, none⟩) n cap ∧ (∃ x, w.cell? ⟨g, k * 4 + 2, none⟩ = some (.int .i64 x)) ∧ w.frozen? ⟨g, k * 4 + 2, none⟩ = false := by
  rcases h.own.2 with ⟨_, h2⟩ | ⟨g, cap, cur, rfl, _⟩
  · omega
  · obtain ⟨x, _, _, hc, _⟩ := OwnP.some4 h.own k hk
    exact ⟨g, cap, rfl, ⟨_, hc⟩, OwnP.frozen h.own _⟩

theorem okI_mk {s : Nat} (o a b c : Int) (h : insOk o a b c s = true) : okI s ⟨o, a, b, c⟩ = true := h
theorem ok_plain {o a b c : Int} {s : Nat} (h : plainP o a b c) (hs : s ≤ 32) : insOk o a b c s = true := by
  obtain ⟨h1, h2, h3, h4, h5⟩ := h
  unfold insOk
  rw [if_pos ⟨inO_iff.2 (by omega), inO_iff.2 (by omega)⟩]
  have hA : chA o a = true := by unfold chA; rw [if_neg (by omega)]; exact inO_iff.2 (by omega)
  rw [hA]
  rcases h5 with ⟨rfl, hb0, hb1, rfl⟩ | ⟨rfl, rfl, rfl⟩ | ⟨rfl, hb0, hb1, rfl⟩ | ⟨n1, n2, n8, hb0, hb1, hc0, hc1⟩
  · have hB : chB 1 b s = true := by unfold chB; rw [if_pos rfl]; exact isW_iff.2 (by omega)
    rw [hB]; rfl
  · rfl
  · have hB : chB 2 b s = true := by unfold chB; rw [if_neg (by omega), if_neg (by omega), if_neg (by omega)]; exact inO_iff.2 (by omega)
    rw [hB]; rfl
  · have hB : chB o b s = true := by unfold chB; rw [if_neg (by omega), if_neg (by omega), if_neg (by omega)]; exact inO_iff.2 (by omega)
    have hC : chC o c = true := by unfold chC; rw [if_pos (by omega)]; exact inO_iff.2 (by omega)
    rw [hB, hC]; rfl
theorem ok_zero {a : Int} {s : Nat} (h0 : 0 ≤ a) (h3 : a ≤ 3) (b : Nat) (hb : b ≤ s) (hs : s ≤ 32) : insOk 10 a b 0 s = true := by
  unfold insOk
  rw [if_pos ⟨inO_iff.2 (by omega), inO_iff.2 (by omega)⟩]
  have hA : chA 10 a = true := by unfold chA; rw [if_neg (by omega)]; exact inO_iff.2 (by omega)
  have hB : chB 10 b s = true := by unfold chB; rw [if_neg (by omega), if_pos (by omega)]; exact inO_iff.2 (by omega)
  rw [hA, hB]; rfl
theorem ok_jump {s : Nat} (b : Nat) (hb : b ≤ s) (hs : s ≤ 32) : insOk 11 0 b 0 s = true := by
  unfold insOk
  rw [if_pos ⟨inO_iff.2 (by omega), inO_iff.2 (by omega)⟩]
  have hB : chB 11 b s = true := by unfold chB; rw [if_neg (by omega), if_pos (by omega)]; exact inO_iff.2 (by omega)
  rw [hB]; rfl
theorem ok_self {a : Int} {s : Nat} (h0 : 0 ≤ a) (h3 : a ≤ 3) (hs : s ≤ 32) : insOk 8 a 0 0 s = true := ok_plain ⟨by omega, by omega, h0, h3, .inr (.inl ⟨rfl, rfl, rfl⟩)⟩ hs
theorem ok_halt {s : Nat} (hs : s ≤ 32) : insOk 12 0 0 0 s = true := by
  unfold insOk
  rw [if_pos ⟨inO_iff.2 (by omega), inO_iff.2 (by omega)⟩]; rfl

theorem ok_three {s : Nat} (hs : s ≤ 32) : ∀ i ∈ ([⟨3, 0, 0, 1⟩, ⟨1, 2, 1, 0⟩, ⟨4, 3, 3, 2⟩] : List I4), okI s i = true := by
  intro i hi
  simp only [List.mem_cons, List.not_mem_nil, or_false] at hi
  rcases hi with rfl | rfl | rfl
  · exact okI_mk _ _ _ _ (ok_plain (by unfold plainP; omega) hs)
  · exact okI_mk _ _ _ _ (ok_plain (by unfold plainP; omega) hs)
  · exact okI_mk _ _ _ _ (ok_plain (by unfold plainP; omega) hs)

end Go.Proofs.Ytmiopbpahkgmbaa
