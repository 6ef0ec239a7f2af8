/- Drawn instructions that reach memory, and any. -/
import Derived.Test.YtedcdfcamomcaaaDoorDrawIns
namespace Go.Proofs.YtedcdfcamomcaaaDoor
open Go.RowKit Go

theorem NumBlock.at (w : World) (zs : List Int) (T : TypeId) (n : Nat) (hn : n = w.heap.size) : NumBlock (w.alloc (.cells (zs.map (Value.int .i64)).toArray T)) n zs := by
  subst hn; exact NumBlock.made w zs T

def memP (o a b c : Int) : Prop := (o = 13 ∨ o = 14 ∨ o = 15) ∧ 0 ≤ a ∧ a ≤ 3 ∧ 0 ≤ b ∧ b ≤ 3 ∧ c = 0

set_option maxHeartbeats 2000000 in
theorem mem_any {base B : Nat} (w : World) (hc : Cur base w B) (hbw : base ≤ w.heap.size) : Calls Tryd.prog 25 #[.pointer (some ⟨B, 0, none⟩)] w (InsDrew base B memP w) := by
  have hBlt := hc.lt
  have C0 := Lib.hid (hc.alloc (.cells (insC 0 0 0 0) 25))
  have D0 := Lib.hid (Blk.new w (insC 0 0 0 0) _ rfl)
  have HM := Lib.hid (NumBlock.at (w.alloc (.cells (insC 0 0 0 0) 25)) [13, 14, 15] 3 (w.heap.size + 1) (by simp))
  clear hc
  go_enter Tryd.func25, Tryd.ntmps25
  go_wp2_with fail
  refine (pickInt_any _ _ _ 3 (by rfl) (by omega) (by omega) (by simp; omega) HM.out (C0.out.alloc _)).mono ?_
  rintro e w1 ⟨o, ho, rfl, hc1, hg1⟩
  have hs : w.heap.size < w1.heap.size := by have := hg1.size; simp at this; omega
  have D1 := Lib.hid ((D0.out.alloc _).grown hg1 (by intro e; cases e; omega))
  have G1 := Lib.hid (grownBy_trans (World.grownBy_alloc w (.cells (insC 0 0 0 0) 25) _) (grownBy_trans (World.grownBy_alloc _ _ _) hg1))
  clear hg1 HM C0 D0
  go_wp2_with fail
  refine (below_any _ 4 (by omega) hc1).mono ?_
  rintro e w2 ⟨y, ⟨hy0, _, hy1⟩, rfl, hc2, hg2⟩
  have hy1 := hy1 (by omega)
  have D2 := Lib.hid (D1.out.grown hg2 (by intro e; cases e; omega))
  have G2 := Lib.hid (grownBy_trans G1.out hg2)
  clear hg2 hc1 D1 G1
  go_wp2_with fail
  refine (below_any _ 4 (by omega) hc2).mono ?_
  rintro e w3 ⟨z, ⟨hz0, _, hz1⟩, rfl, hc3, hg3⟩
  have hz1 := hz1 (by omega)
  have D3 := Lib.hid (D2.out.grown hg3 (by intro e; cases e; omega))
  have G3 := Lib.hid (grownBy_trans G2.out hg3)
  have C3 := Lib.hid hc3
  clear hg3 hc2 hc3 D2 G2
  go_wp2_with ((refine wpList_store_row rfl 25 (.tmp 2) (.tmp 10) rfl w.heap.size (insC o y z 0) rfl rfl 25 _ D3.out (by kernel_rfl) rfl (insC_one _ _ _ _) ?_))
  simp only [List.mem_cons, List.not_mem_nil, or_false] at ho
  obtain ⟨RB, RD⟩ := ins_end (P := memP) (o := o) (a := y) (b := z) (c := 0) (by unfold memP; omega) C3.out D3.out G3.out (Nat.le_refl _) hbw hBlt
  have rC := RB.cell
  exact bodyPost_ret (v := .agg (insC o y z 0)) (by simp [results, Tryd.results25, go_sem, rC]) rfl RD

end Go.Proofs.YtedcdfcamomcaaaDoor
