/- Flow graphs: the contracts of the program's AlwaysEnds and BranchesOf. -/
import Derived.Test.YtbbeafablmnjnaaReachP
namespace Go.Proofs.Ytbbeafablmnjnaa
open Go.RowKit Go

theorem endsQ_nodes (p : List I4) (R : List Int → Nat → Bool) : endsQ p R = (progOk p && (nodesTo (R [0]) (p.length + 1)).all fun y => !circQ p R y.toNat) := by
  unfold endsQ nodesTo
  rw [List.all_map, List.all_filter]
  congr 2
  funext k
  simp only [Function.comp, Int.toNat_natCast, Bool.not_and]

set_option maxRecDepth 100000 in
set_option maxHeartbeats 1000000 in
theorem pBranches_any (B : Nat) (w : World) (a : Option Addr) (p : List I4) (cap : Nat) (hl : p.length ≤ 10000000) (h : Nums B w a (flat p)) (hB : B ≤ w.heap.size) :
    Calls Try.prog 17 #[.slice a p.length cap] w (RowSaid (brQ p) w) := by
  obtain ⟨i0, hi0, hz0, hz1, hz2⟩ := info_parts info_int
  have h1 := pProgramOk_any B w a p cap hl h hB
  have HH := Lib.hid h
  have e : brQ p = if progOk p = true then nodesTo (isBr p) p.length else [] := rfl
  rw [e]
  clear h e
  cases hp : progOk p with
  | false =>
    rw [hp] at h1
    replace h1 := Lib.hid h1
    rw [if_neg (by simp)]
    clear hp
    go_enter Try.func17, Try.ntmps17
    go_wp2_with fail
    refine h1.out.mono ?_
    rintro e w1 ⟨rfl, b1⟩
    go_wp2_with fail
    go_ret
    exact ⟨_, rfl, Own.nil _ _, b1⟩
  | true =>
    have h32 := progOk_len hp
    rw [hp] at h1
    replace h1 := Lib.hid h1
    rw [if_pos rfl]
    have h2 := fun W (k : Nat) hk h hB => pSucc_any B W a p cap k hl hk h hB
    have H2 := Lib.hid h2
    clear hp h2
    go_enter Try.func17, Try.ntmps17
    go_wp2_with fail
    refine h1.out.mono ?_
    rintro e w1 ⟨rfl, b1⟩
    have s1 := b1.size
    have HB1 := Lib.hid (b1.alloc b1.size (.cells #[] 3))
    have HO1 := Lib.hid ((Own.made w1 [] rfl (Nat.le_refl _) rfl (by unfold maxLen; simp)).lower s1)
    clear b1
    go_wp2_with fail
    go_loopw [3, 11] (fun v i wr => ∃ j : Nat, j ≤ p.length ∧ i = .int .i64 j ∧ Own w.heap.size wr v (nodesTo (isBr p) j) ∧ Below w.heap.size w wr) (fun _ i _ => p.length - (intOf i).toNat)
    case atStart => exact ⟨0, Nat.zero_le _, rfl, HO1.out, HB1.out⟩
    case round =>
      obtain ⟨j, hj, rfl, hown, hb⟩ := hrel
      have hsz := hb.size
      have HO := Lib.hid hown
      have HB := Lib.hid hb
      by_cases hlt : j < p.length
      · have h3 := H2.out wr j (by omega) (HH.out.kept (HB.out.mono hB)) (Nat.le_trans hB HB.out.size)
        have hbr : isBr p j = ((nextL p j).length == 2) := rfl
        generalize nextL p j = ys at *
        replace h3 := Lib.hid h3
        by_cases h2 : ys.length = 2
        · have e2 : ((ys.length : Int) == 2) = true := by simp; omega
          have HY := Lib.hid (nodesTo_yes (f := isBr p) (k := j) (by rw [hbr, h2]; rfl))
          have hle := nodesTo_le (isBr p) j
          generalize nodesTo (isBr p) j = xs at *
          clear hbr h2 hown hb
          go_wp2_with fail
          refine h3.out.mono ?_
          rintro e w2 ⟨vs, rfl, o2, b2⟩
          have s2 := b2.size
          obtain ⟨asl, csl, rfl⟩ := o2.form
          have HB2 := Lib.hid (HB.out.trans (b2.mono hsz))
          have HO2 := Lib.hid (HO.out.below b2)
          clear o2 b2
          go_wp2_with (at_builtin; refine wpList_append_own _ rfl _ _ 26 rfl w.heap.size 3 i0 (.int .i64 0) 1 8 Try.underlying26 hi0 hz0 hz1 hz2 rfl (by decide) _ _ _ rfl (World.ownsRow.alloc HO2.out _) ⟨w2.heap.size, 0, none⟩ 1 1 [.int .i64 (j : Int)] rfl rfl (cell_one_new _ _ _) (by simp [Value.oneCell']) (by unfold maxLen; omega) (by omega) (by simp; omega) ?_; intro v' w4 hown4 hgrow _)
          have HN := Lib.hid (own_snoc HO2.out HB2.out hown4 hgrow)
          clear hown4 hgrow
          go_roundw
          case rel => exact ⟨j + 1, hlt, by go_num, by rw [HY.out]; exact HN.out.1, HN.out.2⟩
          case measure => simp [intOf]; omega
        · have e2 : ((ys.length : Int) == 2) = false := by simp; omega
          have HY := Lib.hid (nodesTo_no (f := isBr p) (k := j) (by rw [hbr]; simpa using h2))
          clear hbr h2 hown hb
          go_wp2_with fail
          refine h3.out.mono ?_
          rintro e w2 ⟨vs, rfl, o2, b2⟩
          have s2 := b2.size
          obtain ⟨asl, csl, rfl⟩ := o2.form
          have HB2 := Lib.hid (HB.out.trans (b2.mono hsz))
          have HO2 := Lib.hid (HO.out.below b2)
          clear o2 b2
          go_wp2_with fail
          go_roundw
          case rel => exact ⟨j + 1, hlt, by go_num, by rw [HY.out]; exact HO2.out, HB2.out⟩
          case measure => simp [intOf]; omega
      · obtain rfl : j = p.length := by omega
        clear hown hb
        go_wp2_with fail
        go_ret
        exact ⟨_, rfl, HO.out, HB.out⟩

end Go.Proofs.Ytbbeafablmnjnaa
