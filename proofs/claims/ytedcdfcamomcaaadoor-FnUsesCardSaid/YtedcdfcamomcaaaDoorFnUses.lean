/- FnUses: registers that are read are ascending, and only local instructions and loads write one. -/
import Derived.Test.YtedcdfcamomcaaaDoorInsOkP
import Derived.Test.YtedcdfcamomcaaaDoorInsOkS
import Derived.Test.YtedcdfcamomcaaaDoorReads
import Derived.Test.YtedcdfcamomcaaaDoorOpName
import Derived.Test.YtedcdfcamomcaaaDoorDrawAny
import Derived.Test.YtedcdfcamomcaaaDoorNumber
namespace Go.Proofs.YtedcdfcamomcaaaDoor
open Go.RowKit Go

theorem ok_parts {o a b c s : Int} (h : insOk o a b c s = true) : inO o 0 16 = true ∧ chA o a = true ∧ chB o b s = true ∧ chC o c = true := by
  unfold insOk at h
  split at h
  · rename_i hs
    simp only [Bool.and_eq_true] at h
    exact ⟨hs.2, h.1.1, h.1.2, h.2⟩
  · cases h

/-- The registers that a valid instruction reads exist. -/
theorem raw_ok {o a b c s : Int} (h : insOk o a b c s = true) : ∀ x ∈ rawR o a b c, 0 ≤ x ∧ x ≤ 3 := by
  obtain ⟨ho, hA, hB, hC⟩ := ok_parts h
  have hk := inO_iff.1 ho
  intro x hx
  rcases (by omega : o = 0 ∨ o = 1 ∨ o = 2 ∨ o = 3 ∨ o = 4 ∨ o = 5 ∨ o = 6 ∨ o = 7 ∨ o = 8 ∨ o = 9 ∨ o = 10 ∨ o = 11 ∨ o = 12 ∨ o = 13 ∨ o = 14 ∨ o = 15 ∨ o = 16) with rfl | rfl | rfl | rfl | rfl | rfl | rfl | rfl | rfl | rfl | rfl | rfl | rfl | rfl | rfl | rfl | rfl
  all_goals
    simp only [chA, chB, chC, rawR] at hA hB hC hx
    simp at hA hB hC hx
  all_goals
    first
      | (subst hx; first | exact inO_iff.1 hA | exact inO_iff.1 hB | exact inO_iff.1 hC)
      | (rcases hx with rfl | rfl <;> first | exact inO_iff.1 hA | exact inO_iff.1 hB | exact inO_iff.1 hC)
      | (rcases hx with rfl | rfl | rfl <;> first | exact inO_iff.1 hA | exact inO_iff.1 hB | exact inO_iff.1 hC)

/-- What a valid instruction writes. -/
theorem wrt_ok {o a b c s : Int} (h : insOk o a b c s = true) : wrt o a = -1 ∨ (0 ≤ wrt o a ∧ wrt o a ≤ 3 ∧ (inO o 0 12 = true ∨ o = 13)) := by
  obtain ⟨ho, hA, _, _⟩ := ok_parts h
  unfold wrt
  split
  · rename_i hw
    right
    unfold chA at hA
    rw [if_neg (by omega)] at hA
    have := inO_iff.1 hA
    refine ⟨this.1, this.2, ?_⟩
    rcases hw with hw | hw
    · exact .inl (inO_yes (by omega) (by omega))
    · exact .inr hw
  · exact .inl rfl

theorem name_some {o : Int} (h : inO o 0 16 = true) : (nameOf o).toList ≠ [] := by
  have hk := inO_iff.1 h
  rcases (by omega : o = 0 ∨ o = 1 ∨ o = 2 ∨ o = 3 ∨ o = 4 ∨ o = 5 ∨ o = 6 ∨ o = 7 ∨ o = 8 ∨ o = 9 ∨ o = 10 ∨ o = 11 ∨ o = 12 ∨ o = 13 ∨ o = 14 ∨ o = 15 ∨ o = 16) with rfl | rfl | rfl | rfl | rfl | rfl | rfl | rfl | rfl | rfl | rfl | rfl | rfl | rfl | rfl | rfl | rfl
  all_goals decide +kernel

theorem bytes_alloc {w : World} {a : Option Addr} {len : Nat} (h : Bytes w.heap.size w a len) (o : Obj) : Bytes (w.alloc o).heap.size (w.alloc o) a len := by
  intro j hj
  obtain ⟨b, off, x, ha, hlt, hc, h0, h1⟩ := h j hj
  exact ⟨b, off, x, ha, by simp; omega, by rw [World.cell?_of_block (w := w) (Below.heap_alloc w o b hlt)]; exact hc, h0, h1⟩

/-- A drawn instruction, alone. -/
def AnySaid (w : World) (e : Ending) (w' : World) : Prop :=
  ∃ o a b c : Int, anyP o a b c ∧ e = .returned (.agg #[.int .i64 o, .int .i64 a, .int .i64 b, .int .i64 c]) ∧ Below w.heap.size w w'

theorem any_end {D : Nat} {w w3 : World} {o a b c : Int} {cs : Array Value} (hP : anyP o a b c) (hD : Blk w3 D cs) (hb : Below w.heap.size w w3) (hDw : w.heap.size ≤ D) :
    Blk (w3.setRow D (insC o a b c)) D (insC o a b c) ∧ AnySaid w (.returned (.agg #[.int .i64 o, .int .i64 a, .int .i64 b, .int .i64 c])) (w3.setRow D (insC o a b c)) :=
  ⟨hD.setRow _, o, a, b, c, hP, rfl, hb.grown (grownBy_setRow _ _ _) hb.size (fun k e => by cases e; exact hDw)⟩

set_option maxHeartbeats 1000000 in
theorem drawReads_any (w : World) (a : Option Addr) (len cap : Nat) (hl : len ≤ maxLen) (hb : Bytes w.heap.size w a len) : Calls Tryd.prog 6 #[.slice a len cap] w (AnySaid w) := by
  have HB := Lib.hid (bytes_alloc hb (.cells (insC 0 0 0 0) 25))
  have HL := Lib.hid hl
  have D0 := Lib.hid (Blk.new w (insC 0 0 0 0) _ rfl)
  clear hb hl
  go_enter Tryd.func6, Tryd.ntmps6
  go_wp2_with fail
  refine (new_any _ a len cap HL.out HB.out).mono ?_
  rintro e w0 ⟨B, rfl, hc0, hb0⟩
  have hs0 := hb0.size
  have hB := hc0.1
  have hB' : w.heap.size < B := by simp at hB; omega
  have hs0' : w.heap.size < w0.heap.size := by simp at hs0; omega
  have D1 := Lib.hid (show Blk w0 w.heap.size (insC 0 0 0 0) by unfold Blk; rw [hb0.block _ (by simp)]; exact D0.out)
  have B0 := Lib.hid ((below1 w (.cells (insC 0 0 0 0) 25)).trans (hb0.mono (by simp)))
  clear hb0
  go_wp2_with fail
  refine (any_any _ hc0 hs0).mono ?_
  rintro e w1 ⟨o, x, b, c, hP, rfl, hc1, hg1⟩
  have D2 := Lib.hid (D1.out.grown hg1 (by intro e; cases e; omega))
  have B1 := Lib.hid (B0.out.grown hg1 (by omega) (by intro k e; cases e; omega))
  clear hc1 hg1 hc0
  go_wp2_with ((refine wpList_store_row rfl 25 (.tmp 2) (.tmp 5) rfl w.heap.size (insC o x b c) rfl rfl 25 _ D2.out (by kernel_rfl) rfl (insC_one _ _ _ _) ?_))
  obtain ⟨RB, RD⟩ := any_end hP D2.out B1.out (Nat.le_refl _)
  have rC := RB.cell
  exact bodyPost_ret (v := .agg (insC o x b c)) (by simp [results, Tryd.results6, go_sem, rC]) rfl RD

theorem below_drewN' (B : Nat) (w : World) (n : Nat) : Below B w (w.drewN n) := ⟨rfl, rfl, rfl, Nat.le_refl _, fun _ _ => rfl⟩

theorem asc_at {xs : List Int} (h : Asc xs) {j : Nat} (hj : j + 1 < xs.length) : xs[j] < xs[j + 1] := asc_lt h (Nat.lt_succ_self j) hj

/-- The loop over the registers that are read: it only reads. -/
def LoopRel (n : Nat) (W : World) (i : Value) (wr : World) : Prop := ∃ k m : Nat, k ≤ n ∧ i = .int .i64 k ∧ wr = W.drewN m

set_option maxHeartbeats 4000000 in
theorem fnUses_walk (a : Option Addr) (len cap : Nat) (zs : List Int) (w : World) (hr : IsRow .u8 w a len cap zs) (hT : NamesIs w) :
    Calls Tryd.prog 3 #[.slice a len cap] w fun e w' => e = .returned (.bool true) ∧ Below w.heap.size w w' := by
  obtain ⟨hb, hl⟩ := hr.bytes
  have hl' : len ≤ 9223372036854775807 := by unfold maxLen at hl; omega
  by_cases hbig : 1048576 < len
  · have hd : decide (1048576 < (len : Int)) = true := by simp; omega
    go_enter Tryd.func3, Tryd.ntmps3
    go_wp2_with fail
    refine (big_any _ a len cap).mono ?_
    rw [hd]
    rintro e w' ⟨rfl, rfl⟩
    go_wp2_with fail
    go_ret
    exact ⟨rfl, Below.refl _ _⟩
  · have hd : decide (1048576 < (len : Int)) = false := by simp; omega
    have HB := Lib.hid hb
    have HL := Lib.hid hl
    have HT := Lib.hid hT
    clear hb hl hT hr
    go_enter Tryd.func3, Tryd.ntmps3
    go_wp2_with fail
    refine (big_any _ a len cap).mono ?_
    rw [hd]
    rintro e w' ⟨rfl, rfl⟩
    go_wp2_with fail
    refine (drawReads_any _ a len cap HL.out HB.out).mono ?_
    rintro e w1 ⟨o, x, b, c, hP, rfl, b1⟩
    have s1 := b1.size
    have A1 := Lib.hid (b1.alloc s1 (.cells (insC o x b c) 25))
    have h1 := fun W => sInsOk_any o x b c 32 W
    have h2 := fun W => pInsOk_any o x b c 32 W
    clear b1 hd hl' hbig
    cases hok : insOk o x b c 32 with
    | false =>
      rw [hok] at h1 h2
      replace h1 := Lib.hid h1
      replace h2 := Lib.hid h2
      clear hok
      go_wp2_with fail
      refine (h1.out _).mono ?_
      rintro e w2 ⟨rfl, b2⟩
      obtain ⟨bc2, _⟩ := bcell b2
      have s2 : w1.heap.size < w2.heap.size := by have := b2.size; simp at this; omega
      have A2 := Lib.hid (A1.out.trans (b2.mono (by simp; omega)))
      clear b2
      go_wp2_with fail
      refine (h2.out _).mono ?_
      rintro e w3 ⟨rfl, b3⟩
      have A3 := Lib.hid (A2.out.trans (b3.mono (by omega)))
      clear b3
      go_wp2_with fail
      go_ret
      exact ⟨rfl, A3.out⟩
    | true =>
      rw [hok] at h1 h2
      replace h1 := Lib.hid h1
      have hw := wrt_ok hok
      have hn := name_some (ok_parts hok).1
      have hraw := raw_ok hok
      have hasc := ascOf_asc (rawR o x b c)
      have hlen3 : (ascOf (rawR o x b c)).length ≤ 3 := by
        refine Nat.le_trans (ascOf_le _) ?_
        unfold rawR
        repeat' split
        all_goals simp
      have hxs : ∀ y ∈ ascOf (rawR o x b c), 0 ≤ y ∧ y ≤ 3 := fun y hy => hraw y ((hasc.2 y).1 hy)
      have h3 := fun W => pReads_any o x b c W
      have h4 := fun W => pWrites_any o x b c W
      have h5 := fun W => pIsLocal_any o x b c W
      have h6 := fun W hT => pOpName_any o W hT
      obtain ⟨hasc, _⟩ := hasc
      generalize ascOf (rawR o x b c) = xs at *
      generalize wrt o x = wr0 at *
      generalize nameOf o = nm at *
      replace h3 := Lib.hid h3
      replace h4 := Lib.hid h4
      replace h6 := Lib.hid h6
      have HX := Lib.hid hxs
      have HA := Lib.hid hasc
      clear hok h2 hraw hxs hasc
      go_wp2_with fail
      refine (h1.out _).mono ?_
      rintro e w2 ⟨rfl, b2⟩
      obtain ⟨bc2, _⟩ := bcell b2
      have s2 : w1.heap.size < w2.heap.size := by have := b2.size; simp at this; omega
      have A2 := Lib.hid (A1.out.trans (b2.mono (by simp; omega)))
      clear b2
      go_wp2_with fail
      refine (h3.out _).mono ?_
      rintro e w3 ⟨v, rfl, o3, b3⟩
      obtain ⟨bc3, _⟩ := bcell b3
      have s3 : w1.heap.size < w3.heap.size := by have := b3.size; omega
      obtain ⟨ar, cr, rfl⟩ := o3.form
      have N3 := Lib.hid (o3.nums (fun y hy => by have := HX.out y hy; unfold i64R; omega) (Nat.le_refl _))
      have A3 := Lib.hid (A2.out.trans (b3.mono (by omega)))
      clear b3 o3
      go_wp2_with fail
      refine (h4.out _).mono ?_
      rintro e w4 ⟨rfl, b4⟩
      obtain ⟨bc4, _⟩ := bcell b4
      have s4 : w1.heap.size < w4.heap.size := by have := b4.size; omega
      have N4 := Lib.hid (N3.out.kept b4)
      have A4 := Lib.hid (A3.out.trans (b4.mono (by omega)))
      clear b4
      go_wp2_with fail
      go_loopw [6] (fun i wr => LoopRel xs.length w4 i wr) (fun i _ => xs.length - (intOf i).toNat)
      case atStart => exact ⟨0, 0, Nat.zero_le _, rfl, rfl⟩
      case round =>
        obtain ⟨k, m, hk, rfl, rfl⟩ := hrel
        by_cases hlt : k < xs.length
        · obtain ⟨g, off, rfl, _, hc1⟩ := N4.out.2 k hlt
          have hx := HX.out _ (List.getElem_mem hlt)
          clear bc2 bc3 bc4
          cases k with
          | zero =>
            rw [Nat.add_zero] at hc1
            generalize xs[0] = y at *
            have d1 : decide (y < 0) = false := by simp; omega
            have d2 : decide (4 ≤ y) = false := by simp; omega
            have d3 : decide ((0 : Int) < ((0 : Nat) : Int)) = false := by simp
            go_wp2_with fail
            go_quiet (fail)
            go_wp2_with fail
            go_roundw
            case rel => exact ⟨1, _, by omega, by go_num, rfl⟩
            case measure => simp [intOf]; omega
          | succ j =>
            obtain ⟨g2, off2, ha2, _, hc2⟩ := N4.out.2 j (by omega)
            cases ha2
            have hz := HX.out _ (List.getElem_mem (show j < xs.length by omega))
            have hyz := asc_at HA.out hlt
            generalize xs[j + 1] = y at *
            generalize xs[j] = z at *
            rw [show ((j + 1 : Nat) : Int) = (j : Int) + 1 from rfl]
            have d1 : decide (y < 0) = false := by simp; omega
            have d2 : decide (4 ≤ y) = false := by simp; omega
            have d3 : decide ((0 : Int) < (j : Int) + 1) = true := by simp <;> omega
            have d4 : decide (y ≤ z) = false := by simp; omega
            have d6 : ((j : Int) + 1).toNat = j + 1 := by omega
            have d7 : 0 ≤ (j : Int) + 1 := by omega
            have d5 : IntKind.i64.wrap ((j : Int) + 1 - 1) = (j : Int) := by rw [Int.add_sub_cancel]; exact IntWalk.i64_in _ (by omega)
            go_wp2_with fail
            go_quiet (fail)
            go_wp2_with fail
            go_roundw
            case rel => exact ⟨j + 2, _, by omega, by go_num, rfl⟩
            case measure => simp [intOf]; omega
        · obtain rfl : k = xs.length := by omega
          have A5 := Lib.hid (A4.out.trans (below_drewN' w.heap.size w4 m))
          have e1 : decide ((xs.length : Int) ≤ 3) = true := by simp; omega
          have n1 : nm.toList.isEmpty = false := by simpa using hn
          rcases hw with rfl | ⟨q0, q1, hq⟩
          · clear h5
            go_wp2_with fail
            refine (h6.out _ (HT.out.kept A5.out)).mono ?_
            rintro e w' ⟨rfl, rfl⟩
            go_wp2_with fail
            go_ret
            exact ⟨rfl, A5.out⟩
          · have e2 : decide (-1 ≤ wr0) = true := by simp; omega
            have e3 : decide (wr0 < 4) = true := by simp; omega
            have e4 : decide (wr0 < 0) = false := by simp; omega
            rcases hq with hq | rfl
            · rw [hq] at h5
              replace h5 := Lib.hid h5
              clear hq
              go_wp2_with fail
              refine (h5.out _).mono ?_
              rintro e w6 ⟨rfl, b6⟩
              have bc6 : ∀ b o, b < w4.heap.size → w6.cell? ⟨b, o, none⟩ = w4.cell? ⟨b, o, none⟩ := (bcell b6).1
              have A6 := Lib.hid (A5.out.trans (b6.mono (by show w.heap.size ≤ w4.heap.size; omega)))
              clear b6
              go_wp2_with fail
              refine (h6.out _ (HT.out.kept A6.out)).mono ?_
              rintro e w' ⟨rfl, rfl⟩
              go_wp2_with fail
              go_ret
              exact ⟨rfl, A6.out⟩
            · rw [show inO 13 0 12 = false from rfl] at h5
              replace h5 := Lib.hid h5
              go_wp2_with fail
              refine (h5.out _).mono ?_
              rintro e w6 ⟨rfl, b6⟩
              have bc6 : ∀ b o, b < w4.heap.size → w6.cell? ⟨b, o, none⟩ = w4.cell? ⟨b, o, none⟩ := (bcell b6).1
              have A6 := Lib.hid (A5.out.trans (b6.mono (by show w.heap.size ≤ w4.heap.size; omega)))
              clear b6
              go_wp2_with fail
              refine (h6.out _ (HT.out.kept A6.out)).mono ?_
              rintro e w' ⟨rfl, rfl⟩
              go_wp2_with fail
              go_ret
              exact ⟨rfl, A6.out⟩

end Go.Proofs.YtedcdfcamomcaaaDoor
