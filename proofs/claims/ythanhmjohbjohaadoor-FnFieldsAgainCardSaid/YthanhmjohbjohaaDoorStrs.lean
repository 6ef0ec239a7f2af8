/- The contracts of drawn texts: n drawn bytes; n bytes of one kind. -/
import Derived.Test.YthanhmjohbjohaaDoorDraw2
import Derived.Test.YthanhmjohbjohaaDoorBytes
namespace Go.Proofs.YthanhmjohbjohaaDoor
open Go.RowKit Go

/-- A draw of a string of size n. -/
def DrewStr (base B : Nat) (n : Nat) (w : World) (e : Ending) (w' : World) : Prop :=
  ∃ s : ByteArray, s.size = n ∧ e = .returned (.string s) ∧ Cur base w' B ∧ w.grownBy w' (some B)

theorem strOfNums_len (xs : List Int) : (strOfNums xs).size = xs.length := by
  unfold strOfNums; simp [ByteArray.size]

/-- The relation of the loop that draws a text. -/
def TextRel (base B : Nat) (W : World) (n : Nat) (v i : Value) (wr : World) : Prop :=
  ∃ (k : Nat) (xs : List Int), k ≤ n ∧ i = .int .i64 k ∧ xs.length = k ∧ wr.ownsRow W.heap.size 5 1 v k (xs.map (.int .u8)) ∧ Cur base wr B ∧ W.grownBy wr (some B) ∧ B < W.heap.size

theorem own_ne {w : World} {b B : Nat} {e : TypeId} {size n : Nat} {v : Value} {xs : List Value} (h : w.ownsRow b e size v n xs) (hB : B < b) : v.ownBlock = none ∨ v.ownBlock ≠ some B := by
  cases hv : v.ownBlock with
  | none => exact .inl rfl
  | some g => exact .inr (fun e => by cases e; have := (h.lt _ hv).1; omega)

theorem text_rel {base B : Nat} {W wr w1 w2 : World} {n k : Nat} {xs : List Int} {v v2 : Value} {o : Obj} {x : Int} (hk : k < n) (hl : xs.length = k) (hw : W.grownBy wr (some B)) (hB : B < W.heap.size) (hbase : base ≤ W.heap.size)
    (hg1 : wr.grownBy w1 (some B)) (hc1 : Cur base w1 B) (hown : w1.ownsRow W.heap.size 5 1 v k (xs.map (.int .u8)))
    (hown2 : w2.ownsRow W.heap.size 5 1 v2 (k + 1) (xs.map (.int .u8) ++ [.int .u8 x])) (hg2 : (w1.alloc o).grownBy w2 v.ownBlock) : TextRel base B W n v2 (.int .i64 ((k : Int) + 1)) w2 := by
  have hs1 : W.heap.size ≤ w1.heap.size := Nat.le_trans hw.size hg1.size
  have hg12 : w1.grownBy w2 v.ownBlock := grownBy_trans (World.grownBy_alloc _ _ _) hg2
  have hlt := hown.lt
  refine ⟨k + 1, xs ++ [x], hk, by go_num, by simp [hl], by rw [List.map_append]; exact hown2, ?_, ?_, hB⟩
  · exact hc1.kept hg12 (fun g hg => by have := hlt g hg; omega)
  · have hW1 := grownBy_trans hw hg1
    refine ⟨hg12.os.trans hW1.os, hg12.tape.trans hW1.tape, hg12.output.trans hW1.output, Nat.le_trans hs1 hg12.size, fun i hi hne => ?_⟩
    rw [hg12.block i (by omega) (fun e => by have := hlt i e.symm; omega)]
    exact hW1.block i hi hne

theorem made_one (z : Value) (n : Nat) : (madeCells #[z] n).toList = List.replicate n z := by
  apply List.ext_getElem
  · simp [madeCells]
  · intro i h1 h2
    simp [madeCells, Nat.mod_one]

/-- The relation of the loop that fills a row. -/
def LongRel (W : World) (g n : Nat) (i : Value) (wr : World) : Prop :=
  ∃ (k : Nat) (xs : List Int), k ≤ n ∧ i = .int .i64 k ∧ xs.length = n ∧ wr.ownsRow W.heap.size 5 1 (.slice (some ⟨g, 0, none⟩) n n) n (xs.map (.int .u8)) ∧ Below W.heap.size W wr

set_option maxHeartbeats 400000 in
theorem long_any (w : World) (n : Nat) (x : Int) (hn : n ≤ 1000000) : Calls Tryd.prog 13 #[.int .i64 n, .int .u8 x] w (fun e w' => ∃ s : ByteArray, s.size = n ∧ e = .returned (.string s) ∧ Below w.heap.size w w') := by
  obtain ⟨i0, hi0, hz0, hz1, hz2⟩ := info_parts info_5
  go_enter Tryd.func13, Tryd.ntmps13
  go_wp2_with (at_make; refine wpList_make_full _ rfl _ _ 22 rfl w.heap.size 5 i0 (.int .u8 0) 1 Tryd.underlying22 hi0 hz0 hz1 .i64 .i64 _ _ n rfl rfl rfl rfl (by rw [hz2]; omega) (by unfold maxLen; omega) (Nat.le_refl _) ?_; intro w0 hown0 hgrow0)
  go_loopw [6] (fun i wr => LongRel w w.heap.size n i wr) (fun i _ => n - (intOf i).toNat)
  case atStart =>
    refine ⟨0, List.replicate n 0, by omega, rfl, by simp, ?_, (Below.refl _ _).grown hgrow0 (Nat.le_refl _) (fun _ e => by cases e)⟩
    have e : (madeCells (Value.int IntKind.u8 0).cells (n * 1)).toList = (List.replicate n 0).map (Value.int .u8) := by
      rw [Nat.mul_one, List.map_replicate]
      exact made_one (.int .u8 0) n
    rw [e] at hown0
    exact hown0
  case round =>
    obtain ⟨k, xs, hk, rfl, hl, hown, hbel⟩ := hrel
    have HL := Lib.hid hl
    clear hl
    by_cases hkn : k < n
    · have hcell := hown.cellAt k (by omega)
      have hfz := hown.frozenAt k
      rw [List.getElem?_map, List.getElem?_eq_getElem (by rw [HL.out]; omega)] at hcell
      simp only [Option.map_some] at hcell
      have hst := hown.stored k (.int .u8 x)
      have HS := Lib.hid hst
      clear hst
      go_wp2_with fail
      go_roundw
      case rel => exact ⟨k + 1, xs.set k x, by omega, by go_num, by rw [List.length_set]; exact HL.out, by rw [List.map_set]; exact HS.out.1, hbel.setCell (Nat.le_refl _) _⟩
      case measure => simp [intOf]; omega
    · obtain rfl : k = n := by omega
      have hcv := own_string hown
      go_wp2_with fail
      go_ret
      exact ⟨_, by rw [strOfNums_len, HL.out], rfl, hbel⟩
end Go.Proofs.YthanhmjohbjohaaDoor
