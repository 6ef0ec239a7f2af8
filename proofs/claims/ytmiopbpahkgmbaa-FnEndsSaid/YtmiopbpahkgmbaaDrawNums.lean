/- Drawn words and drawn rows of numbers. -/
import Derived.Test.YtmiopbpahkgmbaaDraw2
import Derived.Test.YtmiopbpahkgmbaaInts
namespace Go.Proofs.Ytmiopbpahkgmbaa
open Go.RowKit Go

def wordP (x : Int) : Prop := 0 ≤ x ∧ x < 65536

set_option maxRecDepth 100000 in
set_option maxHeartbeats 400000 in
theorem word_any {base B : Nat} (w : World) (hc : Cur base w B) : Calls Try.prog 97 #[.pointer (some ⟨B, 0, none⟩)] w (Drew base B wordP w) := by
  go_enter Try.func97, Try.ntmps97
  go_wp2_with fail
  refine (below_any _ 9 (by omega) hc).mono ?_
  rintro e w1 ⟨x, ⟨hx0, _, hx1⟩, rfl, hc1, hg1⟩
  have hx1 := hx1 (by omega)
  go_wp2_with fail
  refine (below_any _ 9000 (by omega) hc1).mono ?_
  rintro e w2 ⟨y, ⟨hy0, _, hy1⟩, rfl, hc2, hg2⟩
  have hy1 := hy1 (by omega)
  have hlt := hc2.lt
  have HM := Lib.hid (NumBlock.made w2 [0, 1, 2, 7, 100, 65535, 32768, x, y] 3)
  go_wp2_with fail
  refine (pickInt_any _ _ _ 9 (by rfl) (by omega) (by omega) (by omega) HM.out (hc2.alloc _)).mono ?_
  rintro e w3 ⟨z, hz, rfl, hc3, hg3⟩
  go_wp2_with fail
  go_ret
  refine ⟨z, ?_, rfl, hc3, grownBy_trans hg1 (grownBy_trans hg2 (grownBy_trans (World.grownBy_alloc _ _ _) hg3))⟩
  simp only [List.mem_cons, List.not_mem_nil, or_false] at hz
  unfold wordP
  omega

theorem own_neB {w : World} {b B : Nat} {v : Value} {xs : List Int} (h : Own b w v xs) (hB : B < b) : v.ownBlock = none ∨ v.ownBlock ≠ some B := by
  cases hv : v.ownBlock with
  | none => exact .inl rfl
  | some g => exact .inr (fun e => by cases e; have := (World.ownsRow.lt h _ hv).1; omega)

/-- The relation of a loop that draws numbers that fit P: k of them lie in the row v. -/
def NumsRel (P : Int → Prop) (base B : Nat) (W : World) (n : Nat) (v i : Value) (wr : World) : Prop :=
  ∃ xs : List Int, xs.length ≤ n ∧ (∀ x ∈ xs, P x) ∧ i = .int .i64 xs.length ∧ Own W.heap.size wr v xs ∧ Cur base wr B ∧ W.grownBy wr (some B) ∧ B < W.heap.size

theorem nums_rel {P : Int → Prop} {base B : Nat} {W wr w1 w2 : World} {n : Nat} {xs : List Int} {v v2 : Value} {o : Obj} {x : Int} (hk : xs.length < n) (hP : ∀ x ∈ xs, P x) (hx : P x) (hw : W.grownBy wr (some B)) (hB : B < W.heap.size) (hbase : base ≤ W.heap.size)
    (hg1 : wr.grownBy w1 (some B)) (hc1 : Cur base w1 B) (hown : Own W.heap.size w1 v xs)
    (hown2 : w2.ownsRow W.heap.size 3 1 v2 (xs.length + 1) (xs.map (.int .i64) ++ [.int .i64 x])) (hg2 : (w1.alloc o).grownBy w2 v.ownBlock) : NumsRel P base B W n v2 (.int .i64 ((xs.length : Int) + 1)) w2 := by
  have hs1 : W.heap.size ≤ w1.heap.size := Nat.le_trans hw.size hg1.size
  have hg12 : w1.grownBy w2 v.ownBlock := grownBy_trans (World.grownBy_alloc _ _ _) hg2
  have hlt := World.ownsRow.lt hown
  refine ⟨xs ++ [x], by simp; omega, ?_, ?_, ?_, ?_, ?_, hB⟩
  · intro y hy
    rcases List.mem_append.1 hy with h | h
    · exact hP y h
    · rw [List.mem_singleton.1 h]; exact hx
  · rw [List.length_append]; go_num
  · unfold Own
    rw [List.map_append, List.length_append]
    exact hown2
  · exact hc1.kept hg12 (fun g hg => by have := hlt g hg; omega)
  · have hW1 := grownBy_trans hw hg1
    refine ⟨hg12.os.trans hW1.os, hg12.tape.trans hW1.tape, hg12.output.trans hW1.output, Nat.le_trans hs1 hg12.size, fun i hi hne => ?_⟩
    rw [hg12.block i (by omega) (fun e => by have := hlt i e.symm; omega)]
    exact hW1.block i hi hne

def placeP (x : Int) : Prop := 0 ≤ x ∧ x < 10000

/-- What a drawn row of numbers leaves. -/
def NumsSaid (P : Int → Prop) (n : Nat) (w : World) (e : Ending) (w' : World) : Prop :=
  ∃ (v : Value) (xs : List Int), xs.length = n ∧ (∀ x ∈ xs, P x) ∧ e = .returned v ∧ Own w.heap.size w' v xs ∧ Below w.heap.size w w'

set_option maxRecDepth 100000 in
set_option maxHeartbeats 400000 in
theorem places_any (w : World) (a : Option Addr) (len cap : Nat) (hl : len ≤ maxLen) (hb : Bytes w.heap.size w a len) :
    Calls Try.prog 14 #[.slice a len cap] w (NumsSaid placeP 12 w) := by
  obtain ⟨i0, hi0, hz0, hz1, hz2⟩ := info_parts info_int
  have HB := Lib.hid hb
  have HL := Lib.hid hl
  clear hb hl
  go_enter Try.func14, Try.ntmps14
  go_wp2_with fail
  refine (new_any _ a len cap HL.out HB.out).mono ?_
  rintro e w0 ⟨B, rfl, hc0, hb0⟩
  have hlt0 := hc0.lt
  have hB := hc0.1
  have hs0 := hb0.size
  go_wp2_with fail
  go_loopw [4, 5] (fun v i wr => NumsRel placeP w.heap.size B w0 12 v i wr) (fun _ i _ => 12 - (intOf i).toNat)
  case atStart => exact ⟨[], by simp, by simp, rfl, World.ownsRow_made w0 #[] 0 (Nat.le_refl _) (by unfold maxLen; omega) rfl, hc0.alloc _, World.grownBy_alloc _ _ _, hlt0⟩
  case round =>
    obtain ⟨xs, hk, hP, rfl, hown, hcr, hw, _⟩ := hrel
    have HP := Lib.hid hP
    clear hP
    by_cases hkn : xs.length < 12
    · go_wp2_with fail
      refine (below_any _ 10000 (by omega) hcr).mono ?_
      rintro e w1 ⟨x, ⟨hx0, _, hx1⟩, rfl, hc1, hg1⟩
      have hx1 := hx1 (by omega)
      have hown1 : Own w0.heap.size w1 _ xs := World.ownsRow.kept hown hg1 (own_neB hown hlt0)
      have hs1 : w0.heap.size ≤ w1.heap.size := Nat.le_trans hw.size hg1.size
      go_wp2_with (at_builtin; refine wpList_append_own _ rfl _ _ 25 rfl w0.heap.size 3 i0 (.int .i64 0) 1 8 Try.underlying25 hi0 hz0 hz1 hz2 rfl (by decide) _ _ _ rfl (World.ownsRow.alloc hown1 _) ⟨w1.heap.size, 0, none⟩ 1 1 [.int .i64 x] rfl rfl (cell_one_new _ _ _) (by simp [Value.oneCell']) (by unfold maxLen; omega) (by omega) (by simp; omega) ?_; intro v' w2 hown2 hgrow _)
      go_roundw
      case rel => exact nums_rel hkn HP.out ⟨hx0, hx1⟩ hw hlt0 hs0 hg1 hc1 hown1 hown2 hgrow
      case measure => simp [intOf]; omega
    · go_wp2_with fail
      go_ret
      exact ⟨_, xs, by omega, HP.out, rfl, ⟨hown.1, hown.2.imp id fun ⟨g, c, cur, e1, e2, e3⟩ => ⟨g, c, cur, e1, by omega, e3⟩⟩, hb0.trans (grownBy_below hw hs0 (fun k e => by cases e; exact hB))⟩

end Go.Proofs.Ytmiopbpahkgmbaa
