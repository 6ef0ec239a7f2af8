/- Drawn instructions: plain ones, ones that reach memory, any. -/
import Derived.Test.YtmiopbpahkgmbaaDraw2
import Derived.Test.YtmiopbpahkgmbaaIns
import Derived.Laws.Tables
namespace Go.Proofs.Ytmiopbpahkgmbaa
open Go.RowKit Go

/-- A block whose cells are known, none of them frozen. -/
def Blk (w : World) (g : Nat) (cs : Array Value) : Prop := w.heap[g]? = some (.cells cs 33 (0, 0))
theorem Blk.cell {w : World} {g : Nat} {cs : Array Value} (h : Blk w g cs) (j : Nat) : w.cell? ⟨g, j, none⟩ = cs[j]? := by unfold Blk at h; simp [World.cell?, h]
theorem Blk.frozen {w : World} {g : Nat} {cs : Array Value} (h : Blk w g cs) (j : Nat) : w.frozen? ⟨g, j, none⟩ = false := by unfold Blk at h; simp [World.frozen?, h]
theorem Blk.lt {w : World} {g : Nat} {cs : Array Value} (h : Blk w g cs) : g < w.heap.size := lt_of_block h
theorem Blk.grown {w w' : World} {g : Nat} {cs : Array Value} {row : Option Nat} (h : Blk w g cs) (hg : w.grownBy w' row) (hne : row ≠ some g) : Blk w' g cs := by
  unfold Blk
  rw [hg.block g h.lt (fun e => hne e.symm)]
  exact h
theorem Blk.alloc {w : World} {g : Nat} {cs : Array Value} (h : Blk w g cs) (o : Obj) : Blk (w.alloc o) g cs := h.grown (World.grownBy_alloc w o none) (by simp)
theorem Blk.new (w : World) (cs : Array Value) (n : Nat) (hn : n = w.heap.size) : Blk (w.alloc (.cells cs 33)) n cs := by
  subst hn; exact heap_alloc_new w _

theorem Blk.setCell {w : World} {g : Nat} {cs : Array Value} (h : Blk w g cs) (a : Addr) (v : Value) (hne : a.block ≠ g) : Blk (w.setCell a v) g cs := h.grown (grownBy_setCell w a v) (by intro e; cases e; exact hne rfl)
theorem Blk.stored {w : World} {g : Nat} {cs : Array Value} (h : Blk w g cs) (j : Nat) (v : Value) : Blk (w.setCell ⟨g, j, none⟩ v) g (cs.setIfInBounds j v) := by
  unfold Blk at *
  rw [setCell_eq_setRow w g j cs _ (0, 0) v h]
  exact setRow_heap w g _ _ _ _ h
theorem grownBy_setRow (w : World) (g : Nat) (cs : Array Value) : w.grownBy (w.setRow g cs) (some g) := by
  refine ⟨rfl, rfl, rfl, by simp [World.setRow], fun k _ hn => ?_⟩
  have hne : g ≠ k := fun e => hn (by rw [e])
  simp [World.setRow, Array.getElem?_modify, hne]
theorem Blk.setRow {w : World} {g : Nat} {cs : Array Value} (h : Blk w g cs) (ds : Array Value) : Blk (w.setRow g ds) g ds := setRow_heap w g _ _ _ _ h
theorem grownBy_new {a b c : World} {row : Option Nat} {k : Nat} (h : a.grownBy b row) (g : b.grownBy c (some k)) (hk : a.heap.size ≤ k) : a.grownBy c row :=
  ⟨g.os.trans h.os, g.tape.trans h.tape, g.output.trans h.output, Nat.le_trans h.size g.size, fun i hi hn => (g.block i (Nat.lt_of_lt_of_le hi h.size) (fun e => by cases e; omega)).trans (h.block i hi hn)⟩

/-- The four fields of an instruction as cells. -/
abbrev insC (o a b c : Int) : Array Value := #[.int .i64 o, .int .i64 a, .int .i64 b, .int .i64 c]
theorem insC_one (o a b c : Int) : (insC o a b c).all (·.oneCell') = true := by simp [insC, Value.oneCell']

/-- A drawn instruction: it fits P, the cursor stands on, nothing else has turned. -/
def InsDrew (base B : Nat) (P : Int → Int → Int → Int → Prop) (w : World) (e : Ending) (w' : World) : Prop :=
  ∃ o a b c : Int, P o a b c ∧ e = .returned (.agg #[.int .i64 o, .int .i64 a, .int .i64 b, .int .i64 c]) ∧ Cur base w' B ∧ w.grownBy w' (some B)

def plainP (o a b c : Int) : Prop := 1 ≤ o ∧ o ≤ 9 ∧ 0 ≤ a ∧ a ≤ 3 ∧ ((o = 1 ∧ 0 ≤ b ∧ b ≤ 5 ∧ c = 0) ∨ (o = 8 ∧ b = 0 ∧ c = 0) ∨ (o = 2 ∧ 0 ≤ b ∧ b ≤ 3 ∧ c = 0) ∨ (o ≠ 1 ∧ o ≠ 2 ∧ o ≠ 8 ∧ 0 ≤ b ∧ b ≤ 3 ∧ 0 ≤ c ∧ c ≤ 3))

/-- The end of a draw: the instruction is laid into the result's block D. -/
theorem ins_end {base B D : Nat} {P : Int → Int → Int → Int → Prop} {w w3 : World} {o a b c : Int} {cs : Array Value} (hP : P o a b c) (hc : Cur base w3 B) (hD : Blk w3 D cs) (hg : w.grownBy w3 (some B)) (hDw : w.heap.size ≤ D) (hbw : base ≤ w.heap.size) (hBw : B < w.heap.size) :
    Blk (w3.setRow D (insC o a b c)) D (insC o a b c) ∧ InsDrew base B P w (.returned (.agg #[.int .i64 o, .int .i64 a, .int .i64 b, .int .i64 c])) (w3.setRow D (insC o a b c)) :=
  ⟨hD.setRow _, o, a, b, c, hP, rfl, hc.kept (grownBy_setRow _ _ _) (fun k e => by cases e; omega), grownBy_new hg (grownBy_setRow _ _ _) hDw⟩

/-- Behind a draw: the blocks E and D lie on. -/
theorem ins_next {B E D : Nat} {w w3 w4 : World} {es ds : Array Value} (hE : Blk w3 E es) (hD : Blk w3 D ds) (hG : w.grownBy w3 (some B)) (hg : w3.grownBy w4 (some B)) (h1 : E ≠ B) (h2 : D ≠ B) :
    Hid (Blk w4 E es) ∧ Hid (Blk w4 D ds) ∧ Hid (w.grownBy w4 (some B)) :=
  ⟨hE.grown hg (by intro e; cases e; exact h1 rfl), hD.grown hg (by intro e; cases e; exact h2 rfl), grownBy_trans hG hg⟩
/-- Behind a store into a field of E. -/
theorem ins_store {base B E D : Nat} {w w3 : World} {es ds es' : Array Value} (hE : Blk w3 E es) (hD : Blk w3 D ds) (hG : w.grownBy w3 (some B)) (hC : Cur base w3 B) (j : Nat) (v : Value) (he : es.setIfInBounds j v = es') (h1 : E ≠ B) (h2 : E ≠ D) (h3 : w.heap.size ≤ E) (h4 : base ≤ E) :
    Hid (Blk (w3.setCell ⟨E, j, none⟩ v) E es') ∧ Hid (Blk (w3.setCell ⟨E, j, none⟩ v) D ds) ∧ Hid (w.grownBy (w3.setCell ⟨E, j, none⟩ v) (some B)) ∧ Hid (Cur base (w3.setCell ⟨E, j, none⟩ v) B) := by
  subst he
  exact ⟨hE.stored j v, hD.setCell _ _ h2, grownBy_new hG (grownBy_setCell _ ⟨E, j, none⟩ _) h3, hC.kept (grownBy_setCell _ ⟨E, j, none⟩ _) (fun k e => by cases e; exact ⟨h4, h1⟩)⟩

set_option maxRecDepth 100000 in
set_option maxHeartbeats 2000000 in
theorem plain_any {base B : Nat} (w : World) (hc : Cur base w B) (hbw : base ≤ w.heap.size) : Calls Try.prog 80 #[.pointer (some ⟨B, 0, none⟩)] w (InsDrew base B plainP w) := by
  have hBlt := hc.lt
  go_enter Try.func80, Try.ntmps80
  go_wp2_with fail
  refine (below_any _ 9 (by omega) (hc.alloc _)).mono ?_
  rintro e w1 ⟨x, ⟨hx0, _, hx1⟩, rfl, hc1, hg1⟩
  have hx1 := hx1 (by omega)
  have D1 := Lib.hid ((Blk.new w (insC 0 0 0 0) _ rfl).grown hg1 (by intro e; cases e; omega))
  have G1 := Lib.hid (grownBy_trans (World.grownBy_alloc w _ _) hg1)
  go_wp2_with fail
  refine (below_any _ 4 (by omega) hc1).mono ?_
  rintro e w2 ⟨y, ⟨hy0, _, hy1⟩, rfl, hc2, hg2⟩
  have hy1 := hy1 (by omega)
  have D2 := Lib.hid (D1.out.grown hg2 (by intro e; cases e; omega))
  have G2 := Lib.hid (grownBy_trans G1.out hg2)
  have C2 := Lib.hid hc2
  have s2 : w.heap.size < w2.heap.size := D2.out.lt
  clear hg1 hg2 D1 G1 hc1 hc2 hc
  obtain ⟨o, ho⟩ : ∃ o, o = 1 + x := ⟨_, rfl⟩
  rw [← ho]
  have ho1 : 1 ≤ o ∧ o ≤ 9 := by omega
  clear ho hx0 hx1
  by_cases h1 : o = 1
  · subst h1
    have E2 := Lib.hid (Blk.new w2 (insC 1 y 0 0) _ rfl)
    have D2a := Lib.hid (D2.out.alloc (.cells (insC 1 y 0 0) 33))
    have G2a := Lib.hid (grownBy_trans G2.out (World.grownBy_alloc w2 (.cells (insC 1 y 0 0) 33) _))
    have C2a := Lib.hid (C2.out.alloc (.cells (insC 1 y 0 0) 33))
    go_wp2_with fail
    refine (below_any _ 6 (by omega) C2a.out).mono ?_
    rintro e w3 ⟨z2, ⟨hz20, _, hz21⟩, rfl, hc3, hg3⟩
    have hz21 := hz21 (by omega)
    obtain ⟨E3, D3, G3⟩ := ins_next E2.out D2a.out G2a.out hg3 (by omega) (by omega)
    have s3 := E3.out.lt
    have eE3 := E3.out.cell
    have eF3 := E3.out.frozen
    obtain ⟨E3a, D3a, G3a, C3a⟩ := ins_store (es' := insC 1 y z2 0) E3.out D3.out G3.out hc3 2 (.int .i64 z2) rfl (by omega) (by omega) (by omega) (by omega)
    clear hc3 hg3
    go_wp2_with ((refine wpList_store_row rfl 33 (.tmp 2) (.tmp 30) rfl w.heap.size (insC 1 y z2 0) rfl rfl 33 _ D3a.out (by kernel_rfl) rfl (insC_one _ _ _ _) ?_))
    obtain ⟨RB, RD⟩ := ins_end (P := plainP) (o := 1) (a := y) (b := z2) (c := 0) (by unfold plainP; omega) C3a.out D3a.out G3a.out (Nat.le_refl _) hbw hBlt
    have rC := RB.cell
    exact bodyPost_ret (v := .agg (insC 1 y z2 0)) (by simp [results, Try.results80, go_sem, rC]) rfl RD
  · have h1' : (o == 1) = false := by simpa using h1
    by_cases h8 : o = 8
    · subst h8
      have E2 := Lib.hid (Blk.new w2 (insC 8 y 0 0) _ rfl)
      have D2a := Lib.hid (D2.out.alloc (.cells (insC 8 y 0 0) 33))
      have G2a := Lib.hid (grownBy_trans G2.out (World.grownBy_alloc w2 (.cells (insC 8 y 0 0) 33) _))
      have C2a := Lib.hid (C2.out.alloc (.cells (insC 8 y 0 0) 33))
      have eE := E2.out.cell
      have eF := E2.out.frozen
      go_wp2_with ((refine wpList_store_row rfl 33 (.tmp 2) (.tmp 30) rfl w.heap.size (insC 8 y 0 0) rfl rfl 33 _ D2a.out (by kernel_rfl) rfl (insC_one _ _ _ _) ?_))
      obtain ⟨RB, RD⟩ := ins_end (P := plainP) (o := 8) (a := y) (b := 0) (c := 0) (by unfold plainP; omega) C2a.out D2a.out G2a.out (Nat.le_refl _) hbw hBlt
      have rC := RB.cell
      exact bodyPost_ret (v := .agg (insC 8 y 0 0)) (by simp [results, Try.results80, go_sem, rC]) rfl RD
    · have h8' : (o == 8) = false := by simpa using h8
      by_cases h2 : o = 2
      · subst h2
        have E2 := Lib.hid (Blk.new w2 (insC 2 y 0 0) _ rfl)
        have D2a := Lib.hid (D2.out.alloc (.cells (insC 2 y 0 0) 33))
        have G2a := Lib.hid (grownBy_trans G2.out (World.grownBy_alloc w2 (.cells (insC 2 y 0 0) 33) _))
        have C2a := Lib.hid (C2.out.alloc (.cells (insC 2 y 0 0) 33))
        go_wp2_with fail
        refine (below_any _ 4 (by omega) C2a.out).mono ?_
        rintro e w3 ⟨z2, ⟨hz20, _, hz21⟩, rfl, hc3, hg3⟩
        have hz21 := hz21 (by omega)
        obtain ⟨E3, D3, G3⟩ := ins_next E2.out D2a.out G2a.out hg3 (by omega) (by omega)
        have s3 := E3.out.lt
        have eE3 := E3.out.cell
        have eF3 := E3.out.frozen
        obtain ⟨E3a, D3a, G3a, C3a⟩ := ins_store (es' := insC 2 y z2 0) E3.out D3.out G3.out hc3 2 (.int .i64 z2) rfl (by omega) (by omega) (by omega) (by omega)
        clear hc3 hg3
        go_wp2_with ((refine wpList_store_row rfl 33 (.tmp 2) (.tmp 30) rfl w.heap.size (insC 2 y z2 0) rfl rfl 33 _ D3a.out (by kernel_rfl) rfl (insC_one _ _ _ _) ?_))
        obtain ⟨RB, RD⟩ := ins_end (P := plainP) (o := 2) (a := y) (b := z2) (c := 0) (by unfold plainP; omega) C3a.out D3a.out G3a.out (Nat.le_refl _) hbw hBlt
        have rC := RB.cell
        exact bodyPost_ret (v := .agg (insC 2 y z2 0)) (by simp [results, Try.results80, go_sem, rC]) rfl RD
      · have h2' : (o == 2) = false := by simpa using h2
        have E2 := Lib.hid (Blk.new w2 (insC o y 0 0) _ rfl)
        have D2a := Lib.hid (D2.out.alloc (.cells (insC o y 0 0) 33))
        have G2a := Lib.hid (grownBy_trans G2.out (World.grownBy_alloc w2 (.cells (insC o y 0 0) 33) _))
        have C2a := Lib.hid (C2.out.alloc (.cells (insC o y 0 0) 33))
        go_wp2_with fail
        refine (below_any _ 4 (by omega) C2a.out).mono ?_
        rintro e w3 ⟨z2, ⟨hz20, _, hz21⟩, rfl, hc3, hg3⟩
        have hz21 := hz21 (by omega)
        obtain ⟨E3, D3, G3⟩ := ins_next E2.out D2a.out G2a.out hg3 (by omega) (by omega)
        have s3 := E3.out.lt
        have eE3 := E3.out.cell
        have eF3 := E3.out.frozen
        obtain ⟨E3a, D3a, G3a, C3a⟩ := ins_store (es' := insC o y z2 0) E3.out D3.out G3.out hc3 2 (.int .i64 z2) rfl (by omega) (by omega) (by omega) (by omega)
        clear hc3 hg3
        go_wp2_with fail
        refine (below_any _ 4 (by omega) C3a.out).mono ?_
        rintro e w4 ⟨z3, ⟨hz30, _, hz31⟩, rfl, hc4, hg4⟩
        have hz31 := hz31 (by omega)
        obtain ⟨E4, D4, G4⟩ := ins_next E3a.out D3a.out G3a.out hg4 (by omega) (by omega)
        have s4 := E4.out.lt
        have eE4 := E4.out.cell
        have eF4 := E4.out.frozen
        obtain ⟨E4a, D4a, G4a, C4a⟩ := ins_store (es' := insC o y z2 z3) E4.out D4.out G4.out hc4 3 (.int .i64 z3) rfl (by omega) (by omega) (by omega) (by omega)
        clear hc4 hg4
        go_wp2_with ((refine wpList_store_row rfl 33 (.tmp 2) (.tmp 30) rfl w.heap.size (insC o y z2 z3) rfl rfl 33 _ D4a.out (by kernel_rfl) rfl (insC_one _ _ _ _) ?_))
        obtain ⟨RB, RD⟩ := ins_end (P := plainP) (o := o) (a := y) (b := z2) (c := z3) (by unfold plainP; omega) C4a.out D4a.out G4a.out (Nat.le_refl _) hbw hBlt
        have rC := RB.cell
        exact bodyPost_ret (v := .agg (insC o y z2 z3)) (by simp [results, Try.results80, go_sem, rC]) rfl RD

end Go.Proofs.Ytmiopbpahkgmbaa
