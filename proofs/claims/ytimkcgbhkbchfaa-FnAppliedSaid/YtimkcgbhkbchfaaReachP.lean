/- Flow graphs: the contracts of the program's functions. -/
import Derived.Test.YtimkcgbhkbchfaaMarks
namespace Go.Proofs.Ytimkcgbhkbchfaa
open Go.RowKit Go

/-- For all nodes to begin with at once: marks that say what is reached. -/
def AllReach (p : List I4) (R : List Int → Nat → Bool) : Prop := ∀ us, IsReach p us (R us)
theorem exists_all (p : List I4) : ∃ R, AllReach p R :=
  ⟨fun us k => @decide (Reach p us k) (Classical.propDecidable _), fun us k => @decide_eq_true_iff (Reach p us k) (Classical.propDecidable _)⟩

def nextQ (p : List I4) (k : Int) : List Int := if nodeOk p k = true then nextL p k.toNat else []
def reachQ (p : List I4) (R : List Int → Nat → Bool) (k : Int) : List Int := if nodeOk p k = true then nodesTo (R [k]) (p.length + 1) else []
def exitQ (p : List I4) (R : List Int → Nat → Bool) (k : Int) : Bool := nodeOk p k && R [k] p.length
def circQ (p : List I4) (R : List Int → Nat → Bool) (k : Nat) : Bool := R (nextL p k) k
def endsQ (p : List I4) (R : List Int → Nat → Bool) : Bool := progOk p && (List.range (p.length + 1)).all fun k => !(R [0] k && circQ p R k)
def isBr (p : List I4) (k : Nat) : Bool := (nextL p k).length == 2
def brQ (p : List I4) : List Int := if progOk p = true then nodesTo (isBr p) p.length else []

theorem reach_far {p : List I4} {us : List Int} {f : Nat → Bool} (hp : progOk p = true) (hf : IsReach p us f) (hu : ∀ u ∈ us, u ≤ p.length) (k : Nat) (hk : p.length + 1 ≤ k) : f k = false := by
  rw [← Bool.not_eq_true, hf k]
  intro h
  have := h.le hp hu
  omega
theorem reach_33 {p : List I4} {us : List Int} {f : Nat → Bool} (hp : progOk p = true) (hf : IsReach p us f) (hu : ∀ u ∈ us, u ≤ p.length) : nodesTo f 33 = nodesTo f (p.length + 1) := by
  have h := progOk_len hp
  have := nodesTo_more (f := f) (m := p.length + 1) (fun k hk => reach_far hp hf hu k hk) (33 - (p.length + 1))
  rwa [show p.length + 1 + (33 - (p.length + 1)) = 33 by omega] at this
theorem any_reach {p : List I4} {R : List Int → Nat → Bool} (hR : AllReach p R) {ys : List Int} (hy : ∀ y ∈ ys, 0 ≤ y) (k : Nat) : R ys k = ys.any fun y => R [y] k := by
  rw [Bool.eq_iff_iff, hR ys k, Reach.split, List.any_eq_true]
  constructor
  · rintro ⟨u, hu, hr⟩
    exact ⟨_, hu, (hR _ k).2 hr⟩
  · rintro ⟨y, hm, hr⟩
    obtain ⟨u, rfl⟩ := Int.eq_ofNat_of_zero_le (hy y hm)
    exact ⟨u, hm, (hR _ k).1 hr⟩

theorem anyT_take {α : Type} {f : α → Bool} {xs : List α} {k : Nat} (hk : k < xs.length) (h : ∀ x ∈ xs.take k, f x = false) (hx : f xs[k] = false) : ∀ x ∈ xs.take (k + 1), f x = false := by
  intro x hm
  rw [List.take_succ_eq_append_getElem hk, List.mem_append, List.mem_singleton] at hm
  rcases hm with hm | rfl
  · exact h x hm
  · exact hx
theorem anyT_yes {α : Type} {f : α → Bool} {xs : List α} {k : Nat} (hk : k < xs.length) (hx : f xs[k] = true) : xs.any f = true := by
  rw [List.any_eq_true]
  exact ⟨_, List.getElem_mem hk, hx⟩
theorem anyT_no {α : Type} {f : α → Bool} {xs : List α} (h : ∀ x ∈ xs.take xs.length, f x = false) : xs.any f = false := by
  rw [List.any_eq_false]
  rw [List.take_length] at h
  intro x hx
  rw [h x hx]
  simp

theorem row_said {xs ys : List Int} {w w1 w2 : World} {e : Ending} (h : RowSaid xs w1 e w2) (hx : xs = ys) (hb : Below w.heap.size w w1) : RowSaid ys w e w2 := by
  subst hx
  obtain ⟨v, rfl, ho, b2⟩ := h
  exact ⟨_, rfl, ho.lower hb.size, hb.trans (b2.mono hb.size)⟩

set_option maxRecDepth 100000 in
set_option maxHeartbeats 400000 in
theorem pNextOf_any (B : Nat) (w : World) (a : Option Addr) (p : List I4) (cap : Nat) (k : Int) (hl : p.length ≤ 10000000) (h : Nums B w a (flat p)) (hB : B ≤ w.heap.size) :
    Calls Try.prog 21 #[.slice a p.length cap, .int .i64 k] w (RowSaid (nextQ p k) w) := by
  have h1 := pIsNode_any B w a p cap k hl h hB
  have HH := Lib.hid h
  have e : nextQ p k = if nodeOk p k = true then nextL p k.toNat else [] := rfl
  rw [e]
  clear e h
  cases hk : nodeOk p k with
  | false =>
    rw [hk] at h1
    replace h1 := Lib.hid h1
    rw [if_neg (by simp)]
    clear hk
    go_enter Try.func21, Try.ntmps21
    go_wp2_with fail
    refine h1.out.mono ?_
    rintro e w1 ⟨rfl, b1⟩
    go_wp2_with fail
    go_ret
    exact ⟨_, rfl, Own.nil _ _, b1⟩
  | true =>
    obtain ⟨hp, h0, hn⟩ := nodeOk_iff.1 hk
    rw [hk] at h1
    replace h1 := Lib.hid h1
    rw [if_pos rfl]
    obtain ⟨k, rfl⟩ := Int.eq_ofNat_of_zero_le h0
    rw [Int.toNat_natCast]
    have h2 := fun W h hB => pSucc_any B W a p cap k hl (by omega) h hB
    have H2 := Lib.hid h2
    clear hk hp h2
    go_enter Try.func21, Try.ntmps21
    go_wp2_with fail
    refine h1.out.mono ?_
    rintro e w1 ⟨rfl, b1⟩
    have B1 := Lib.hid b1
    clear b1
    go_wp2_with fail
    refine (H2.out _ (HH.out.kept (B1.out.mono hB)) (Nat.le_trans hB B1.out.size)).mono ?_
    intro e w2 hr
    have HR := Lib.hid (row_said hr rfl B1.out)
    obtain ⟨v, rfl, _, _⟩ := HR.out
    clear hr
    go_wp2_with fail
    go_ret
    exact HR.out

end Go.Proofs.Ytimkcgbhkbchfaa
