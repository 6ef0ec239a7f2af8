/- Flow graphs: the contracts of the program's functions. -/
import Derived.Test.YtmiopbpahkgmbaaMarks
namespace Go.Proofs.Ytmiopbpahkgmbaa
open Go.RowKit Go

/-- For all nodes to begin with at once: marks that say what is reached. -/
def AllReach (p : List I4) (R : List Int → Nat → Bool) : Prop := ∀ us, IsReach p us (R us)
theorem exists_all (p : List I4) : ∃ R, AllReach p R :=
  ⟨fun us k => @decide (Reach p us k) (Classical.propDecidable _), fun us k => @decide_eq_true_iff (Reach p us k) (Classical.propDecidable _)⟩

def nextQ (p : List I4) (k : Int) : List Int := if nodeOk p k = true then nextL p k.toNat else []
def reachQ (p : List I4) (R : List Int → Nat → Bool) (k : Int) : List Int := if nodeOk p k = true then nodesTo (R [k]) (p.length + 1) else []
def exitQ (p : List I4) (R : List Int → Nat → Bool) (k : Int) : Bool := nodeOk p k && R [k] p.length
def circQ (p : List I4) (R : List Int → Nat → Bool) (k : Nat) : Bool := R (nextL p k) k
def endsQ (p : List I4) (R : List Int → Nat → Bool) : Bool := progOk p && (List.range (p.length + 1)).all fun k => !(R [0] k && circQ p R k)
def isBr (p : List I4) (k : Nat) : Bool := (nextL p k).length == 2
def brQ (p : List I4) : List Int := if progOk p = true then nodesTo (isBr p) p.length else []

theorem reach_far {p : List I4} {us : List Int} {f : Nat → Bool} (hp : progOk p = true) (hf : IsReach p us f) (hu : ∀ u ∈ us, u ≤ p.length) (k : Nat) (hk : p.length + 1 ≤ k) : f k = false := by
  rw [← Bool.not_eq_true, hf k]
  intro h
  have := h.le hp hu
  omega
theorem reach_33 {p : List I4} {us : List Int} {f : Nat → Bool} (hp : progOk p = true) (hf : IsReach p us f) (hu : ∀ u ∈ us, u ≤ p.length) : nodesTo f 33 = nodesTo f (p.length + 1) := by
  have h := progOk_len hp
  have := nodesTo_more (f := f) (m := p.length + 1) (fun k hk => reach_far hp hf hu k hk) (33 - (p.length + 1))
  rwa [show p.length + 1 + (33 - (p.length + 1)) = 33 by omega] at this
theorem any_reach {p : List I4} {R : List Int → Nat → Bool} (hR : AllReach p R) {ys : List Int} (hy : ∀ y ∈ ys, 0 ≤ y) (k : Nat) : R ys k = ys.any fun y => R [y] k := by
  rw [Bool.eq_iff_iff, hR ys k, Reach.split, List.any_eq_true]
  constructor
  · rintro ⟨u, hu, hr⟩
    exact ⟨_, hu, (hR _ k).2 hr⟩
  · rintro ⟨y, hm, hr⟩
    obtain ⟨u, rfl⟩ := Int.eq_ofNat_of_zero_le (hy y hm)
    exact ⟨u, hm, (hR _ k).1 hr⟩

theorem anyT_take {α : Type} {f : α → Bool} {xs : List α} {k : Nat} (hk : k < xs.length) (h : ∀ x ∈ xs.take k, f x = false) (hx : f xs[k] = false) : ∀ x ∈ xs.take (k + 1), f x = false := by
  intro x hm
  rw [List.take_succ_eq_append_getElem hk, List.mem_append, List.mem_singleton] at hm
  rcases hm with hm | rfl
  · exact h x hm
  · exact hx
theorem anyT_yes {α : Type} {f : α → Bool} {xs : List α} {k : Nat} (hk : k < xs.length) (hx : f xs[k] = true) : xs.any f = true := by
  rw [List.any_eq_true]
  exact ⟨_, List.getElem_mem hk, hx⟩
theorem anyT_no {α : Type} {f : α → Bool} {xs : List α} (h : ∀ x ∈ xs.take xs.length, f x = false) : xs.any f = false := by
  rw [List.any_eq_false]
  rw [List.take_length] at h
  intro x hx
  rw [h x hx]
  simp

/-- The cells of the array of marks. -/
def marksA (f : Nat → Bool) : Array Value := (((List.range 33).map f).map Value.bool).toArray
theorem info_boolP : (Try.prog.info? 4).map (fun i => (i.zero, i.size, i.bytes)) = some (some (.bool false), 1, 1) := by kernel_rfl
/-- A collected row, one element longer. -/
theorem own_snoc {base : Nat} {W wr w2 : World} {xs : List Int} {v v2 : Value} {o : Obj} {x : Int} (h : Own base wr v xs) (hb : Below base W wr)
    (hown2 : w2.ownsRow base 3 1 v2 (xs.length + 1) (xs.map (.int .i64) ++ [.int .i64 x])) (hg2 : (wr.alloc o).grownBy w2 v.ownBlock) (hs : base ≤ wr.heap.size := by omega) : Own base w2 v2 (xs ++ [x]) ∧ Below base W w2 := by
  refine ⟨?_, hb.trans (grownBy_below (grownBy_trans (World.grownBy_alloc _ _ _) hg2) hs (fun k e => (World.ownsRow.lt h k e).1))⟩
  unfold Own
  rw [List.map_append, List.length_append]
  exact hown2
theorem index_marks (f : Nat → Bool) (k : Nat) (hk : k < 33) (w : World) : (Instr.index 104 (.agg (marksA f)) (.int .i64 (k : Int))).run Try.prog w = .ok (.bool (f k)) w := by
  have h1 : (marksA f)[k]? = some (.bool (f k)) := by
    unfold marksA
    rw [List.getElem?_toArray, List.getElem?_map, List.getElem?_map, List.getElem?_range hk]
    rfl
  generalize marksA f = A at *
  obtain ⟨i1, hi1, hy0, hy1, hy2⟩ := info_parts info_boolP
  have hu : Try.prog.underlying 104 = some (.array 33 4) := Try.underlying104
  have hb : Try.prog.underlying 4 = some .bool := Try.underlying4
  have hk1 : (0 : Int) ≤ (k : Int) ∧ (k : Int) < 33 := by omega
  simp [Instr.index, asIntOf, run_underlying hu, hk1, part, sizeOf, typeInfo, hi1, hy1, h1]
  intro h33
  omega

theorem pMarks_all {B : Nat} {w : World} {a : Option Addr} {p : List I4} {R : List Int → Nat → Bool} {cap k : Nat} (hR : AllReach p R) (hp : progOk p = true) (hk : k ≤ p.length) (h : Nums B w a (flat p)) (hB : B ≤ w.heap.size) :
    Calls Try.prog 92 #[.slice a p.length cap, .int .i64 k] w (Said (.agg (marksA (R [(k : Int)]))) w) :=
  pMarks_any B w a p cap k hp hk h hB _ (hR [(k : Int)])

theorem row_said {xs ys : List Int} {w w1 w2 : World} {e : Ending} (h : RowSaid xs w1 e w2) (hx : xs = ys) (hb : Below w.heap.size w w1) : RowSaid ys w e w2 := by
  subst hx
  obtain ⟨v, rfl, ho, b2⟩ := h
  exact ⟨_, rfl, ho.lower hb.size, hb.trans (b2.mono hb.size)⟩

set_option maxRecDepth 100000 in
set_option maxHeartbeats 400000 in
theorem pNextOf_any (B : Nat) (w : World) (a : Option Addr) (p : List I4) (cap : Nat) (k : Int) (hl : p.length ≤ 10000000) (h : Nums B w a (flat p)) (hB : B ≤ w.heap.size) :
    Calls Try.prog 23 #[.slice a p.length cap, .int .i64 k] w (RowSaid (nextQ p k) w) := by
  have h1 := pIsNode_any B w a p cap k hl h hB
  have HH := Lib.hid h
  have e : nextQ p k = if nodeOk p k = true then nextL p k.toNat else [] := rfl
  rw [e]
  clear e h
  cases hk : nodeOk p k with
  | false =>
    rw [hk] at h1
    replace h1 := Lib.hid h1
    rw [if_neg (by simp)]
    clear hk
    go_enter Try.func23, Try.ntmps23
    go_wp2_with fail
    refine h1.out.mono ?_
    rintro e w1 ⟨rfl, b1⟩
    go_wp2_with fail
    go_ret
    exact ⟨_, rfl, Own.nil _ _, b1⟩
  | true =>
    obtain ⟨hp, h0, hn⟩ := nodeOk_iff.1 hk
    rw [hk] at h1
    replace h1 := Lib.hid h1
    rw [if_pos rfl]
    obtain ⟨k, rfl⟩ := Int.eq_ofNat_of_zero_le h0
    rw [Int.toNat_natCast]
    have h2 := fun W h hB => pSucc_any B W a p cap k hl (by omega) h hB
    have H2 := Lib.hid h2
    clear hk hp h2
    go_enter Try.func23, Try.ntmps23
    go_wp2_with fail
    refine h1.out.mono ?_
    rintro e w1 ⟨rfl, b1⟩
    have B1 := Lib.hid b1
    clear b1
    go_wp2_with fail
    refine (H2.out _ (HH.out.kept (B1.out.mono hB)) (Nat.le_trans hB B1.out.size)).mono ?_
    intro e w2 hr
    have HR := Lib.hid (row_said hr rfl B1.out)
    obtain ⟨v, rfl, _, _⟩ := HR.out
    clear hr
    go_wp2_with fail
    go_ret
    exact HR.out

set_option maxRecDepth 100000 in
set_option maxHeartbeats 1000000 in
theorem pMarked_any (w : World) (f : Nat → Bool) : Calls Try.prog 91 #[.agg (marksA f)] w (RowSaid (nodesTo f 33) w) := by
  obtain ⟨i0, hi0, hz0, hz1, hz2⟩ := info_parts info_int
  have hix := index_marks f
  have hO : OwnB 104 w.heap.size (w.alloc (.cells (marksA f) 104)) w.heap.size ((List.range 33).map f) := OwnB.made w ((List.range 33).map f) rfl (Nat.le_refl _) (by unfold maxLen; simp)
  have hr := (hO.alloc (.cells #[] 3)).range
  clear hO
  have hl : (((List.range 33).map f).map Value.bool).length = 33 := by simp
  unfold marksA at *
  generalize ((List.range 33).map f).map Value.bool = cs at *
  have HR := Lib.hid hr
  have HIX := Lib.hid hix
  have HL := Lib.hid (show (Try.prog.info? 104).map (·.size) = some cs.length by rw [hl]; kernel_rfl)
  have HO := Lib.hid (show Own w.heap.size ((w.alloc (.cells cs.toArray 104)).alloc (.cells #[] 3)) (.slice (some ⟨w.heap.size + 1, 0, none⟩) 0 0) [] from Own.made _ [] (by simp) (by omega) rfl (by unfold maxLen; simp))
  have HB := Lib.hid (below2 w (.cells cs.toArray 104) (.cells #[] 3))
  clear hr hix hl
  go_enter Try.func91, Try.ntmps91
  go_wp2_with (refine wpList_load_mid rfl 104 (.tmp 1) rfl w.heap.size 0 rfl _ (.array 33 4) HR.out rfl rfl HL.out ?_)
  generalize cs.toArray = A at *
  go_loopw [3, 8] (fun v i wr => ∃ j : Nat, j ≤ 33 ∧ i = .int .i64 j ∧ Own w.heap.size wr v (nodesTo f j) ∧ Below w.heap.size w wr) (fun _ i _ => 33 - (intOf i).toNat)
  case atStart => exact ⟨0, by omega, rfl, HO.out, HB.out⟩
  case round =>
    obtain ⟨j, hj, rfl, hown, hb⟩ := hrel
    have hsz := hb.size
    have HO := Lib.hid hown
    have HB := Lib.hid hb
    by_cases hlt : j < 33
    · have hx := HIX.out j hlt
      cases hf : f j with
      | true =>
        rw [hf] at hx
        have HY := Lib.hid (nodesTo_yes hf)
        have hle := nodesTo_le f j
        generalize nodesTo f j = xs at *
        clear hf hown hb
        go_wp2_with (at_builtin; refine wpList_append_own _ rfl _ _ 25 rfl w.heap.size 3 i0 (.int .i64 0) 1 8 Try.underlying25 hi0 hz0 hz1 hz2 rfl (by decide) _ _ _ rfl (World.ownsRow.alloc HO.out _) ⟨wr.heap.size, 0, none⟩ 1 1 [.int .i64 (j : Int)] rfl rfl (cell_one_new _ _ _) (by simp [Value.oneCell']) (by unfold maxLen; omega) (by omega) (by simp; omega) ?_; intro v' w4 hown4 hgrow _)
        have HN := Lib.hid (own_snoc HO.out HB.out hown4 hgrow)
        clear hown4 hgrow
        go_roundw
        case rel => exact ⟨j + 1, by omega, by go_num, by rw [HY.out]; exact HN.out.1, HN.out.2⟩
        case measure => simp [intOf]; omega
      | false =>
        rw [hf] at hx
        have HY := Lib.hid (nodesTo_no hf)
        clear hf hown hb
        go_wp2_with fail
        go_roundw
        case rel => exact ⟨j + 1, by omega, by go_num, by rw [HY.out]; exact HO.out, HB.out⟩
        case measure => simp [intOf]; omega
    · obtain rfl : j = 33 := by omega
      clear hown hb
      go_wp2_with fail
      go_ret
      exact ⟨_, rfl, HO.out, HB.out⟩

set_option maxRecDepth 100000 in
set_option maxHeartbeats 1000000 in
theorem pReachable_any (B : Nat) (w : World) (a : Option Addr) (p : List I4) (R : List Int → Nat → Bool) (hR : AllReach p R) (cap : Nat) (k : Int) (hl : p.length ≤ 10000000) (h : Nums B w a (flat p)) (hB : B ≤ w.heap.size) :
    Calls Try.prog 67 #[.slice a p.length cap, .int .i64 k] w (RowSaid (reachQ p R k) w) := by
  have h1 := pIsNode_any B w a p cap k hl h hB
  have HH := Lib.hid h
  have e : reachQ p R k = if nodeOk p k = true then nodesTo (R [k]) (p.length + 1) else [] := rfl
  rw [e]
  clear e h
  cases hk : nodeOk p k with
  | false =>
    rw [hk] at h1
    replace h1 := Lib.hid h1
    rw [if_neg (by simp)]
    clear hk hR
    go_enter Try.func67, Try.ntmps67
    go_wp2_with fail
    refine h1.out.mono ?_
    rintro e w1 ⟨rfl, b1⟩
    go_wp2_with fail
    go_ret
    exact ⟨_, rfl, Own.nil _ _, b1⟩
  | true =>
    obtain ⟨hp, h0, hn⟩ := nodeOk_iff.1 hk
    rw [hk] at h1
    replace h1 := Lib.hid h1
    rw [if_pos rfl]
    obtain ⟨k, rfl⟩ := Int.eq_ofNat_of_zero_le h0
    have h2 := fun W h hB => pMarks_all (w := W) (B := B) (a := a) (cap := cap) (k := k) hR hp (by omega) h hB
    have H2 := Lib.hid h2
    have e33 := reach_33 hp (hR [(k : Int)]) (by intro u hu; simp at hu; omega)
    rw [← e33]
    generalize R [(k : Int)] = f at *
    have H3 := Lib.hid (fun W => pMarked_any W f)
    generalize marksA f = A at *
    clear hk hp h2 e33 hR
    go_enter Try.func67, Try.ntmps67
    go_wp2_with fail
    refine h1.out.mono ?_
    rintro e w1 ⟨rfl, b1⟩
    have B1 := Lib.hid b1
    clear b1
    go_wp2_with fail
    refine (H2.out _ (HH.out.kept (B1.out.mono hB)) (Nat.le_trans hB B1.out.size)).mono ?_
    rintro e w2 ⟨rfl, b2⟩
    have B2 := Lib.hid (B1.out.trans (b2.mono B1.out.size))
    clear b2
    go_wp2_with fail
    refine (H3.out _).mono ?_
    intro e w3 hr
    have HR := Lib.hid (row_said hr rfl B2.out)
    obtain ⟨v, rfl, _, _⟩ := HR.out
    clear hr
    go_wp2_with fail
    go_ret
    exact HR.out

end Go.Proofs.Ytmiopbpahkgmbaa
