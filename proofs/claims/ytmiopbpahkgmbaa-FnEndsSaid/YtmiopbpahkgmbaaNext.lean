/- The contracts of what answers the successors of a node: the program's and the model's. -/
import Derived.Test.YtmiopbpahkgmbaaFlow
import Derived.Test.YtmiopbpahkgmbaaReads
namespace Go.Proofs.Ytmiopbpahkgmbaa
open Go.RowKit Go Go.Sort

theorem Own.alloc2 {B : Nat} {w : World} {v : Value} {xs : List Int} (h : Own B w v xs) (o1 o2 : Obj) : Own B ((w.alloc o1).alloc o2) v xs := (h.alloc o1).alloc o2

theorem put_row {xs : List Int} {w w2 : World} {e : Ending} (h : PutSaid xs w.heap.size w e w2) : RowSaid xs w e w2 := by
  obtain ⟨g, c, rfl, ho, b2⟩ := h
  exact ⟨_, rfl, ho, b2⟩
theorem one_put {n : Nat} {w w1 : World} {x : Int} {xs : List Int} (h : [x] = xs) (hn : n = w1.heap.size) (hs : w.heap.size ≤ w1.heap.size) (hb : Below w.heap.size w w1) :
    PutSaid xs w.heap.size w (.returned (.slice (some ⟨n, 0, none⟩) 1 1)) (w1.alloc (.cells #[.int .i64 x] 3)) := by
  subst h hn
  exact ⟨_, _, rfl, Own.made w1 [x] rfl hs rfl (by unfold maxLen; simp), hb.alloc hs _⟩
theorem one_ret {n : Nat} {w w1 : World} {x : Int} {xs : List Int} (h : [x] = xs) (hn : n = w1.heap.size) (hs : w.heap.size ≤ w1.heap.size) (hb : Below w.heap.size w w1) :
    RowSaid xs w (.returned (.slice (some ⟨n, 0, none⟩) 1 1)) (w1.alloc (.cells #[.int .i64 x] 3)) := put_row (one_put h hn hs hb)

set_option maxRecDepth 100000 in
set_option maxHeartbeats 1000000 in
theorem pSucc_any (B : Nat) (w : World) (a : Option Addr) (p : List I4) (cap k : Nat) (hl : p.length ≤ 10000000) (hk : k ≤ p.length) (h : Nums B w a (flat p)) (_hB : B ≤ w.heap.size) :
    Calls Try.prog 63 #[.slice a p.length cap, .int .i64 k] w (RowSaid (nextL p k) w) := by
  rcases Nat.lt_or_ge k p.length with hlt | hge
  · rw [nextL_at hlt]
    have hne : ((k : Int) == (p.length : Int)) = false := by simp; omega
    obtain ⟨g, off, rfl, hg, c0, c1, c2, c3⟩ := h.at4 k hlt
    clear h
    generalize p[k] = x at *
    obtain ⟨o, xa, b, c⟩ := x
    simp only at c0 c1 c2 c3
    have e : nextI p.length k ⟨o, xa, b, c⟩ = if o = 12 then [(p.length : Int)] else if o = 11 then [b] else if o = 10 then ascOf [b, (k : Int) + 1] else [(k : Int) + 1] := rfl
    rw [e]
    clear e
    by_cases h12 : o = 12
    · rw [if_pos h12]
      subst h12
      go_enter Try.func63, Try.ntmps63
      go_wp2_with fail
      go_ret
      exact one_ret rfl (by simp) (by simp) (below1 _ _)
    · rw [if_neg h12]
      by_cases h11 : o = 11
      · rw [if_pos h11]
        subst h11
        go_enter Try.func63, Try.ntmps63
        go_wp2_with fail
        go_ret
        exact one_ret rfl (by simp) (by simp) (below1 _ _)
      · rw [if_neg h11]
        by_cases h10 : o = 10
        · rw [if_pos h10]
          subst h10
          go_enter Try.func63, Try.ntmps63
          go_wp2_with fail
          refine (sortI_own (base := w.heap.size) (xs := [b, (k : Int) + 1]) (Own.made _ _ (by simp) (by simp) rfl (by unfold maxLen; simp)) (by simp)).mono ?_
          rintro e w1 ⟨rfl, o1, g1⟩
          have O1 := Lib.hid o1
          have B1 := Lib.hid ((below2 _ _ _).grown g1 (by simp <;> omega) (by intro k e; cases e; omega))
          clear o1 g1
          go_wp2_with fail
          refine (compactI_own O1.out (by simp)).mono ?_
          rintro e w2 ⟨rfl, o2, g2⟩
          have s1 := B1.out.size
          have O2 := Lib.hid o2
          have B2 := Lib.hid (B1.out.grown g2 s1 (by intro k e; cases e; omega))
          clear o2 g2
          go_wp2_with fail
          go_ret
          exact reads_ret (sort_compact _) O2.out B2.out
        · rw [if_neg h10]
          have e12 : (o == 12) = false := by simpa using h12
          have e11 : (o == 11) = false := by simpa using h11
          have e10 : (o == 10) = false := by simpa using h10
          clear h12 h11 h10
          go_enter Try.func63, Try.ntmps63
          go_wp2_with fail
          go_ret
          exact one_ret rfl (by simp) (by simp) (below1 _ _)
  · obtain rfl : k = p.length := by omega
    rw [nextL_end]
    clear h
    go_enter Try.func63, Try.ntmps63
    go_wp2_with fail
    go_ret
    exact ⟨_, rfl, Own.nil _ _, Below.refl _ _⟩

theorem putI_next (b x : Int) : putI [x] b = ascOf [b, x] := by
  have h1 := putI_asc (xs := [x]) (by simp [Asc]) b
  have h2 := ascOf_asc [b, x]
  exact asc_ext h1.1 h2.1 fun y => by rw [h1.2, h2.2]; simp

theorem put_said {xs ys : List Int} {w w1 w2 : World} {e : Ending} (h : PutSaid xs w.heap.size w1 e w2) (hx : xs = ys) (hb : Below w.heap.size w w1) : PutSaid ys w.heap.size w e w2 := by
  subst hx
  obtain ⟨g, c, rfl, ho, b2⟩ := h
  exact ⟨_, _, rfl, ho, hb.trans (b2.mono hb.size)⟩

/-- Is it a node? -/
def nodeOk (p : List I4) (k : Int) : Bool := progOk p && decide (0 ≤ k ∧ k ≤ (p.length : Int))
theorem nodeOk_iff {p : List I4} {k : Int} : nodeOk p k = true ↔ progOk p = true ∧ 0 ≤ k ∧ k ≤ (p.length : Int) := by
  unfold nodeOk
  rw [Bool.and_eq_true, decide_eq_true_eq]

set_option maxRecDepth 100000 in
set_option maxHeartbeats 400000 in
theorem pIsNode_any (B : Nat) (w : World) (a : Option Addr) (p : List I4) (cap : Nat) (k : Int) (hl : p.length ≤ 10000000) (h : Nums B w a (flat p)) (hB : B ≤ w.heap.size) :
    Calls Try.prog 62 #[.slice a p.length cap, .int .i64 k] w (Said (.bool (nodeOk p k)) w) := by
  have h1 := pProgramOk_any B w a p cap hl h hB
  have e : nodeOk p k = (progOk p && decide (0 ≤ k ∧ k ≤ (p.length : Int))) := rfl
  clear h
  rw [e]
  clear e
  generalize progOk p = v at *
  replace h1 := Lib.hid h1
  cases v with
  | false =>
    rw [Bool.false_and]
    go_enter Try.func62, Try.ntmps62
    go_wp2_with fail
    refine h1.out.mono ?_
    rintro e w' ⟨rfl, b1⟩
    go_wp2_with fail
    go_ret
    exact ⟨rfl, b1⟩
  | true =>
    rw [Bool.true_and]
    by_cases h0 : 0 ≤ k
    · by_cases h2 : k ≤ (p.length : Int)
      · have e : decide (0 ≤ k ∧ k ≤ (p.length : Int)) = true := by simp [h0, h2]
        rw [e]
        clear e
        go_enter Try.func62, Try.ntmps62
        go_wp2_with fail
        refine h1.out.mono ?_
        rintro e w' ⟨rfl, b1⟩
        go_wp2_with fail
        go_ret
        exact ⟨rfl, b1⟩
      · have e : decide (0 ≤ k ∧ k ≤ (p.length : Int)) = false := by simp [h2]
        have hd : decide (k ≤ (p.length : Int)) = false := by simpa using h2
        rw [e]
        clear e
        go_enter Try.func62, Try.ntmps62
        go_wp2_with fail
        refine h1.out.mono ?_
        rintro e w' ⟨rfl, b1⟩
        go_wp2_with fail
        go_ret
        exact ⟨rfl, b1⟩
    · have e : decide (0 ≤ k ∧ k ≤ (p.length : Int)) = false := by simp [h0]
      have hd : decide (0 ≤ k) = false := by simpa using h0
      rw [e]
      clear e
      go_enter Try.func62, Try.ntmps62
      go_wp2_with fail
      refine h1.out.mono ?_
      rintro e w' ⟨rfl, b1⟩
      go_wp2_with fail
      go_ret
      exact ⟨rfl, b1⟩

end Go.Proofs.Ytmiopbpahkgmbaa
