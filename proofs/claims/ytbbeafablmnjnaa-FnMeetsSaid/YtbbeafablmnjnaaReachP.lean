/- Flow graphs: the contracts of the program's functions. -/
import Derived.Test.YtbbeafablmnjnaaMarks
namespace Go.Proofs.Ytbbeafablmnjnaa
open Go.RowKit Go

/-- For all nodes to begin with at once: marks that say what is reached. -/
def AllReach (p : List I4) (R : List Int → Nat → Bool) : Prop := ∀ us, IsReach p us (R us)
theorem exists_all (p : List I4) : ∃ R, AllReach p R :=
  ⟨fun us k => @decide (Reach p us k) (Classical.propDecidable _), fun us k => @decide_eq_true_iff (Reach p us k) (Classical.propDecidable _)⟩

def nextQ (p : List I4) (k : Int) : List Int := if nodeOk p k = true then nextL p k.toNat else []
def reachQ (p : List I4) (R : List Int → Nat → Bool) (k : Int) : List Int := if nodeOk p k = true then nodesTo (R [k]) (p.length + 1) else []
def exitQ (p : List I4) (R : List Int → Nat → Bool) (k : Int) : Bool := nodeOk p k && R [k] p.length
def circQ (p : List I4) (R : List Int → Nat → Bool) (k : Nat) : Bool := R (nextL p k) k
def endsQ (p : List I4) (R : List Int → Nat → Bool) : Bool := progOk p && (List.range (p.length + 1)).all fun k => !(R [0] k && circQ p R k)
def isBr (p : List I4) (k : Nat) : Bool := (nextL p k).length == 2
def brQ (p : List I4) : List Int := if progOk p = true then nodesTo (isBr p) p.length else []

theorem reach_far {p : List I4} {us : List Int} {f : Nat → Bool} (hp : progOk p = true) (hf : IsReach p us f) (hu : ∀ u ∈ us, u ≤ p.length) (k : Nat) (hk : p.length + 1 ≤ k) : f k = false := by
  rw [← Bool.not_eq_true, hf k]
  intro h
  have := h.le hp hu
  omega
theorem reach_33 {p : List I4} {us : List Int} {f : Nat → Bool} (hp : progOk p = true) (hf : IsReach p us f) (hu : ∀ u ∈ us, u ≤ p.length) : nodesTo f 33 = nodesTo f (p.length + 1) := by
  have h := progOk_len hp
  have := nodesTo_more (f := f) (m := p.length + 1) (fun k hk => reach_far hp hf hu k hk) (33 - (p.length + 1))
  rwa [show p.length + 1 + (33 - (p.length + 1)) = 33 by omega] at this
theorem any_reach {p : List I4} {R : List Int → Nat → Bool} (hR : AllReach p R) {ys : List Int} (hy : ∀ y ∈ ys, 0 ≤ y) (k : Nat) : R ys k = ys.any fun y => R [y] k := by
  rw [Bool.eq_iff_iff, hR ys k, Reach.split, List.any_eq_true]
  constructor
  · rintro ⟨u, hu, hr⟩
    exact ⟨_, hu, (hR _ k).2 hr⟩
  · rintro ⟨y, hm, hr⟩
    obtain ⟨u, rfl⟩ := Int.eq_ofNat_of_zero_le (hy y hm)
    exact ⟨u, hm, (hR _ k).1 hr⟩

theorem anyT_take {α : Type} {f : α → Bool} {xs : List α} {k : Nat} (hk : k < xs.length) (h : ∀ x ∈ xs.take k, f x = false) (hx : f xs[k] = false) : ∀ x ∈ xs.take (k + 1), f x = false := by
  intro x hm
  rw [List.take_succ_eq_append_getElem hk, List.mem_append, List.mem_singleton] at hm
  rcases hm with hm | rfl
  · exact h x hm
  · exact hx
theorem anyT_yes {α : Type} {f : α → Bool} {xs : List α} {k : Nat} (hk : k < xs.length) (hx : f xs[k] = true) : xs.any f = true := by
  rw [List.any_eq_true]
  exact ⟨_, List.getElem_mem hk, hx⟩
theorem anyT_no {α : Type} {f : α → Bool} {xs : List α} (h : ∀ x ∈ xs.take xs.length, f x = false) : xs.any f = false := by
  rw [List.any_eq_false]
  rw [List.take_length] at h
  intro x hx
  rw [h x hx]
  simp

/-- The cells of the array of marks. -/
def marksA (f : Nat → Bool) : Array Value := (((List.range 33).map f).map Value.bool).toArray
theorem info_boolP : (Try.prog.info? 4).map (fun i => (i.zero, i.size, i.bytes)) = some (some (.bool false), 1, 1) := by kernel_rfl
/-- A collected row, one element longer. -/
theorem own_snoc {base : Nat} {W wr w2 : World} {xs : List Int} {v v2 : Value} {o : Obj} {x : Int} (h : Own base wr v xs) (hb : Below base W wr)
    (hown2 : w2.ownsRow base 3 1 v2 (xs.length + 1) (xs.map (.int .i64) ++ [.int .i64 x])) (hg2 : (wr.alloc o).grownBy w2 v.ownBlock) (hs : base ≤ wr.heap.size := by omega) : Own base w2 v2 (xs ++ [x]) ∧ Below base W w2 := by
  refine ⟨?_, hb.trans (grownBy_below (grownBy_trans (World.grownBy_alloc _ _ _) hg2) hs (fun k e => (World.ownsRow.lt h k e).1))⟩
  unfold Own
  rw [List.map_append, List.length_append]
  exact hown2
theorem index_marks (f : Nat → Bool) (k : Nat) (hk : k < 33) (w : World) : (Instr.index 51 (.agg (marksA f)) (.int .i64 (k : Int))).run Try.prog w = .ok (.bool (f k)) w := by
  have h1 : (marksA f)[k]? = some (.bool (f k)) := by
    unfold marksA
    rw [List.getElem?_toArray, List.getElem?_map, List.getElem?_map, List.getElem?_range hk]
    rfl
  generalize marksA f = A at *
  obtain ⟨i1, hi1, hy0, hy1, hy2⟩ := info_parts info_boolP
  have hu : Try.prog.underlying 51 = some (.array 33 4) := Try.underlying51
  have hb : Try.prog.underlying 4 = some .bool := Try.underlying4
  have hk1 : (0 : Int) ≤ (k : Int) ∧ (k : Int) < 33 := by omega
  simp [Instr.index, asIntOf, run_underlying hu, hk1, part, sizeOf, typeInfo, hi1, hy1, h1]
  intro h33
  omega

theorem pMarks_all {B : Nat} {w : World} {a : Option Addr} {p : List I4} {R : List Int → Nat → Bool} {cap k : Nat} (hR : AllReach p R) (hp : progOk p = true) (hk : k ≤ p.length) (h : Nums B w a (flat p)) (hB : B ≤ w.heap.size) :
    Calls Try.prog 40 #[.slice a p.length cap, .int .i64 k] w (Said (.agg (marksA (R [(k : Int)]))) w) :=
  pMarks_any B w a p cap k hp hk h hB _ (hR [(k : Int)])

theorem row_said {xs ys : List Int} {w w1 w2 : World} {e : Ending} (h : RowSaid xs w1 e w2) (hx : xs = ys) (hb : Below w.heap.size w w1) : RowSaid ys w e w2 := by
  subst hx
  obtain ⟨v, rfl, ho, b2⟩ := h
  exact ⟨_, rfl, ho.lower hb.size, hb.trans (b2.mono hb.size)⟩

set_option maxRecDepth 100000 in
set_option maxHeartbeats 400000 in
theorem pNextOf_any (B : Nat) (w : World) (a : Option Addr) (p : List I4) (cap : Nat) (k : Int) (hl : p.length ≤ 10000000) (h : Nums B w a (flat p)) (hB : B ≤ w.heap.size) :
    Calls Try.prog 19 #[.slice a p.length cap, .int .i64 k] w (RowSaid (nextQ p k) w) := by
  have h1 := pIsNode_any B w a p cap k hl h hB
  have HH := Lib.hid h
  have e : nextQ p k = if nodeOk p k = true then nextL p k.toNat else [] := rfl
  rw [e]
  clear e h
  cases hk : nodeOk p k with
  | false =>
    rw [hk] at h1
    replace h1 := Lib.hid h1
    rw [if_neg (by simp)]
    clear hk
    go_enter Try.func19, Try.ntmps19
    go_wp2_with fail
    refine h1.out.mono ?_
    rintro e w1 ⟨rfl, b1⟩
    go_wp2_with fail
    go_ret
    exact ⟨_, rfl, Own.nil _ _, b1⟩
  | true =>
    obtain ⟨hp, h0, hn⟩ := nodeOk_iff.1 hk
    rw [hk] at h1
    replace h1 := Lib.hid h1
    rw [if_pos rfl]
    obtain ⟨k, rfl⟩ := Int.eq_ofNat_of_zero_le h0
    rw [Int.toNat_natCast]
    have h2 := fun W h hB => pSucc_any B W a p cap k hl (by omega) h hB
    have H2 := Lib.hid h2
    clear hk hp h2
    go_enter Try.func19, Try.ntmps19
    go_wp2_with fail
    refine h1.out.mono ?_
    rintro e w1 ⟨rfl, b1⟩
    have B1 := Lib.hid b1
    clear b1
    go_wp2_with fail
    refine (H2.out _ (HH.out.kept (B1.out.mono hB)) (Nat.le_trans hB B1.out.size)).mono ?_
    intro e w2 hr
    have HR := Lib.hid (row_said hr rfl B1.out)
    obtain ⟨v, rfl, _, _⟩ := HR.out
    clear hr
    go_wp2_with fail
    go_ret
    exact HR.out

set_option maxRecDepth 100000 in
set_option maxHeartbeats 400000 in
theorem pReachesExit_any (B : Nat) (w : World) (a : Option Addr) (p : List I4) (R : List Int → Nat → Bool) (hR : AllReach p R) (cap : Nat) (k : Int) (hl : p.length ≤ 10000000) (h : Nums B w a (flat p)) (hB : B ≤ w.heap.size) :
    Calls Try.prog 14 #[.slice a p.length cap, .int .i64 k] w (Said (.bool (exitQ p R k)) w) := by
  have h1 := pIsNode_any B w a p cap k hl h hB
  have HH := Lib.hid h
  have e : exitQ p R k = (nodeOk p k && R [k] p.length) := rfl
  rw [e]
  clear e h
  cases hk : nodeOk p k with
  | false =>
    rw [hk] at h1
    replace h1 := Lib.hid h1
    rw [Bool.false_and]
    clear hk hR
    go_enter Try.func14, Try.ntmps14
    go_wp2_with fail
    refine h1.out.mono ?_
    rintro e w1 ⟨rfl, b1⟩
    go_wp2_with fail
    go_ret
    exact ⟨rfl, b1⟩
  | true =>
    obtain ⟨hp, h0, hn⟩ := nodeOk_iff.1 hk
    rw [hk] at h1
    replace h1 := Lib.hid h1
    rw [Bool.true_and]
    obtain ⟨k, rfl⟩ := Int.eq_ofNat_of_zero_le h0
    have h2 := fun W h hB => pMarks_all (w := W) (B := B) (a := a) (cap := cap) (k := k) hR hp (by omega) h hB
    have H2 := Lib.hid h2
    have hix := index_marks (R [(k : Int)]) p.length (by have := progOk_len hp; omega)
    generalize R [(k : Int)] = f at *
    generalize marksA f = A at *
    generalize f p.length = b at *
    clear hk hp h2 hR
    go_enter Try.func14, Try.ntmps14
    go_wp2_with fail
    refine h1.out.mono ?_
    rintro e w1 ⟨rfl, b1⟩
    have B1 := Lib.hid b1
    clear b1
    go_wp2_with fail
    refine (H2.out _ (HH.out.kept (B1.out.mono hB)) (Nat.le_trans hB B1.out.size)).mono ?_
    rintro e w2 ⟨rfl, b2⟩
    have B2 := Lib.hid (B1.out.trans (b2.mono B1.out.size))
    clear b2
    go_wp2_with fail
    go_ret
    exact ⟨rfl, B2.out⟩

end Go.Proofs.Ytbbeafablmnjnaa
