/- The model's ReadsRegs. -/
import Derived.Test.YtedcdfcamomcaaaReads
import Derived.LoopTactic
namespace Go.Proofs.Ytedcdfcamomcaaa
open Go.RowKit Go Go.Sort

/-- The loop that inserts one by one: what stands behind k rounds. -/
def PutsRel (us : List Int) (gl cl : Nat) (W0 : World) (v i : Value) (wr : World) : Prop :=
  ∃ k g cap : Nat, k ≤ us.length ∧ i = .int .i64 k ∧ v = .slice (some ⟨g, 0, none⟩) (ascOf (us.take k)).length cap ∧
    Own W0.heap.size wr (.slice (some ⟨g, 0, none⟩) (ascOf (us.take k)).length cap) (ascOf (us.take k)) ∧ Own W0.heap.size wr (.slice (some ⟨gl, 0, none⟩) cl cl) us ∧ Below W0.heap.size W0 wr

theorem puts_take {us : List Int} {k : Nat} (h : k < us.length) : ascOf (us.take (k + 1)) = putI (ascOf (us.take k)) us[k] := by
  rw [List.take_succ_eq_append_getElem h, ascOf_snoc]

theorem puts_step {us ys : List Int} {gl cl k g cap : Nat} {W0 wr w2 : World} (hk : k < us.length) (hy : ascOf (us.take (k + 1)) = ys) (ho : Own W0.heap.size w2 (.slice (some ⟨g, 0, none⟩) ys.length cap) ys)
    (hl : Own W0.heap.size wr (.slice (some ⟨gl, 0, none⟩) cl cl) us) (hb : Below W0.heap.size W0 wr) (h2 : Below wr.heap.size wr w2) : PutsRel us gl cl W0 (.slice (some ⟨g, 0, none⟩) ys.length cap) (.int .i64 ((k : Int) + 1)) w2 := by
  subst hy
  exact ⟨k + 1, g, cap, hk, by go_num, rfl, ho, hl.below h2, hb.trans (h2.mono hb.size)⟩

theorem below4 (w : World) (o1 o2 o3 o4 : Obj) : Below w.heap.size w ((((w.alloc o1).alloc o2).alloc o3).alloc o4) := (below3 w o1 o2 o3).alloc (by simp; omega) o4

set_option maxHeartbeats 2000000 in
theorem sReads_b (o a b c : Int) (ho : o = 2 ∨ o = 13) (w : World) : Calls Try.prog 12 #[.agg #[.int .i64 o, .int .i64 a, .int .i64 b, .int .i64 c]] w (RowSaid (ascOf [b]) w) := by
  rcases ho with rfl | rfl
  all_goals
    go_enter Try.func12, Try.ntmps12
    go_wp2_with fail
    go_loopw [4, 5] (fun v i wr => PutsRel [b] (w.heap.size + 2) 1 w v i wr) (fun _ i _ => 1 - (intOf i).toNat)
    case atStart => exact ⟨0, w.heap.size + 3, 0, by simp, rfl, rfl, Own.made _ [] (by simp) (by omega) rfl (by unfold maxLen; simp), Own.alloc (Own.made _ [b] (by simp) (by omega) rfl (by unfold maxLen; simp)) _, below4 _ _ _ _ _⟩
    case round =>
      obtain ⟨k, g, cap, hk, rfl, rfl, hout, hlist, hb⟩ := hrel
      have hle := ascOf_le (List.take k [b])
      have hlt' : (List.take k [b]).length ≤ k := List.length_take_le _ _
      by_cases hlt : k < 1
      · have HC := Lib.hid (puts_take (us := [b]) (k := k) (by simpa using hlt))
        obtain ⟨g', hg', _, _, hcell⟩ := hlist.cell k (by simpa using hlt)
        obtain rfl : w.heap.size + 2 = g' := by injection hg' with e; injection e
        clear hg'
        have HO := Lib.hid hout
        have HL := Lib.hid hlist
        have HB := Lib.hid hb
        generalize ([b])[k]'(by simpa using hlt) = x at *
        generalize ascOf (List.take k [b]) = ys at *
        clear hout hlist hb
        go_wp2_with fail
        refine (sPut_any w.heap.size g cap ys x _ (by simp at hk; omega) HO.out).mono ?_
        rintro e w2 ⟨g2, c2, rfl, o2, b2⟩
        have O2 := Lib.hid o2
        have B2 := Lib.hid b2
        clear o2 b2
        go_wp2_with fail
        go_roundw
        case rel => exact puts_step (by simpa using hlt) HC.out O2.out HL.out HB.out B2.out
        case measure => simp [intOf]; omega
      · obtain rfl : k = 1 := by simp at hk; omega
        have HO := Lib.hid hout
        clear hout
        go_wp2_with fail
        go_ret
        exact ⟨_, rfl, HO.out, hb⟩

set_option maxHeartbeats 2000000 in
theorem sReads_bc (o a b c : Int) (ho : o = 3 ∨ o = 4 ∨ o = 5 ∨ o = 6 ∨ o = 7) (w : World) : Calls Try.prog 12 #[.agg #[.int .i64 o, .int .i64 a, .int .i64 b, .int .i64 c]] w (RowSaid (ascOf [b, c]) w) := by
  rcases ho with rfl | rfl | rfl | rfl | rfl
  all_goals
    go_enter Try.func12, Try.ntmps12
    go_wp2_with fail
    go_loopw [4, 5] (fun v i wr => PutsRel [b, c] (w.heap.size + 2) 2 w v i wr) (fun _ i _ => 2 - (intOf i).toNat)
    case atStart => exact ⟨0, w.heap.size + 3, 0, by simp, rfl, rfl, Own.made _ [] (by simp) (by omega) rfl (by unfold maxLen; simp), Own.alloc (Own.made _ [b, c] (by simp) (by omega) rfl (by unfold maxLen; simp)) _, below4 _ _ _ _ _⟩
    case round =>
      obtain ⟨k, g, cap, hk, rfl, rfl, hout, hlist, hb⟩ := hrel
      have hle := ascOf_le (List.take k [b, c])
      have hlt' : (List.take k [b, c]).length ≤ k := List.length_take_le _ _
      by_cases hlt : k < 2
      · have HC := Lib.hid (puts_take (us := [b, c]) (k := k) (by simpa using hlt))
        obtain ⟨g', hg', _, _, hcell⟩ := hlist.cell k (by simpa using hlt)
        obtain rfl : w.heap.size + 2 = g' := by injection hg' with e; injection e
        clear hg'
        have HO := Lib.hid hout
        have HL := Lib.hid hlist
        have HB := Lib.hid hb
        generalize ([b, c])[k]'(by simpa using hlt) = x at *
        generalize ascOf (List.take k [b, c]) = ys at *
        clear hout hlist hb
        go_wp2_with fail
        refine (sPut_any w.heap.size g cap ys x _ (by simp at hk; omega) HO.out).mono ?_
        rintro e w2 ⟨g2, c2, rfl, o2, b2⟩
        have O2 := Lib.hid o2
        have B2 := Lib.hid b2
        clear o2 b2
        go_wp2_with fail
        go_roundw
        case rel => exact puts_step (by simpa using hlt) HC.out O2.out HL.out HB.out B2.out
        case measure => simp [intOf]; omega
      · obtain rfl : k = 2 := by simp at hk; omega
        have HO := Lib.hid hout
        clear hout
        go_wp2_with fail
        go_ret
        exact ⟨_, rfl, HO.out, hb⟩

set_option maxHeartbeats 2000000 in
theorem sReads_abc (a b c : Int) (w : World) : Calls Try.prog 12 #[.agg #[.int .i64 9, .int .i64 a, .int .i64 b, .int .i64 c]] w (RowSaid (ascOf [a, b, c]) w) := by
  go_enter Try.func12, Try.ntmps12
  go_wp2_with fail
  go_loopw [4, 5] (fun v i wr => PutsRel [a, b, c] (w.heap.size + 2) 3 w v i wr) (fun _ i _ => 3 - (intOf i).toNat)
  case atStart => exact ⟨0, w.heap.size + 3, 0, by simp, rfl, rfl, Own.made _ [] (by simp) (by omega) rfl (by unfold maxLen; simp), Own.alloc (Own.made _ [a, b, c] (by simp) (by omega) rfl (by unfold maxLen; simp)) _, below4 _ _ _ _ _⟩
  case round =>
    obtain ⟨k, g, cap, hk, rfl, rfl, hout, hlist, hb⟩ := hrel
    have hle := ascOf_le (List.take k [a, b, c])
    have hlt' : (List.take k [a, b, c]).length ≤ k := List.length_take_le _ _
    by_cases hlt : k < 3
    · have HC := Lib.hid (puts_take (us := [a, b, c]) (k := k) (by simpa using hlt))
      obtain ⟨g', hg', _, _, hcell⟩ := hlist.cell k (by simpa using hlt)
      obtain rfl : w.heap.size + 2 = g' := by injection hg' with e; injection e
      clear hg'
      have HO := Lib.hid hout
      have HL := Lib.hid hlist
      have HB := Lib.hid hb
      generalize ([a, b, c])[k]'(by simpa using hlt) = x at *
      generalize ascOf (List.take k [a, b, c]) = ys at *
      clear hout hlist hb
      go_wp2_with fail
      refine (sPut_any w.heap.size g cap ys x _ (by simp at hk; omega) HO.out).mono ?_
      rintro e w2 ⟨g2, c2, rfl, o2, b2⟩
      have O2 := Lib.hid o2
      have B2 := Lib.hid b2
      clear o2 b2
      go_wp2_with fail
      go_roundw
      case rel => exact puts_step (by simpa using hlt) HC.out O2.out HL.out HB.out B2.out
      case measure => simp [intOf]; omega
    · obtain rfl : k = 3 := by simp at hk; omega
      have HO := Lib.hid hout
      clear hout
      go_wp2_with fail
      go_ret
      exact ⟨_, rfl, HO.out, hb⟩

set_option maxHeartbeats 2000000 in
theorem sReads_a (a b c : Int) (w : World) : Calls Try.prog 12 #[.agg #[.int .i64 10, .int .i64 a, .int .i64 b, .int .i64 c]] w (RowSaid (ascOf [a]) w) := by
  go_enter Try.func12, Try.ntmps12
  go_wp2_with fail
  go_loopw [4, 5] (fun v i wr => PutsRel [a] (w.heap.size + 2) 1 w v i wr) (fun _ i _ => 1 - (intOf i).toNat)
  case atStart => exact ⟨0, w.heap.size + 3, 0, by simp, rfl, rfl, Own.made _ [] (by simp) (by omega) rfl (by unfold maxLen; simp), Own.alloc (Own.made _ [a] (by simp) (by omega) rfl (by unfold maxLen; simp)) _, below4 _ _ _ _ _⟩
  case round =>
    obtain ⟨k, g, cap, hk, rfl, rfl, hout, hlist, hb⟩ := hrel
    have hle := ascOf_le (List.take k [a])
    have hlt' : (List.take k [a]).length ≤ k := List.length_take_le _ _
    by_cases hlt : k < 1
    · have HC := Lib.hid (puts_take (us := [a]) (k := k) (by simpa using hlt))
      obtain ⟨g', hg', _, _, hcell⟩ := hlist.cell k (by simpa using hlt)
      obtain rfl : w.heap.size + 2 = g' := by injection hg' with e; injection e
      clear hg'
      have HO := Lib.hid hout
      have HL := Lib.hid hlist
      have HB := Lib.hid hb
      generalize ([a])[k]'(by simpa using hlt) = x at *
      generalize ascOf (List.take k [a]) = ys at *
      clear hout hlist hb
      go_wp2_with fail
      refine (sPut_any w.heap.size g cap ys x _ (by simp at hk; omega) HO.out).mono ?_
      rintro e w2 ⟨g2, c2, rfl, o2, b2⟩
      have O2 := Lib.hid o2
      have B2 := Lib.hid b2
      clear o2 b2
      go_wp2_with fail
      go_roundw
      case rel => exact puts_step (by simpa using hlt) HC.out O2.out HL.out HB.out B2.out
      case measure => simp [intOf]; omega
    · obtain rfl : k = 1 := by simp at hk; omega
      have HO := Lib.hid hout
      clear hout
      go_wp2_with fail
      go_ret
      exact ⟨_, rfl, HO.out, hb⟩

set_option maxHeartbeats 2000000 in
theorem sReads_ab (o a b c : Int) (ho : o = 14 ∨ o = 15) (w : World) : Calls Try.prog 12 #[.agg #[.int .i64 o, .int .i64 a, .int .i64 b, .int .i64 c]] w (RowSaid (ascOf [a, b]) w) := by
  rcases ho with rfl | rfl
  all_goals
    go_enter Try.func12, Try.ntmps12
    go_wp2_with fail
    go_loopw [4, 5] (fun v i wr => PutsRel [a, b] (w.heap.size + 2) 2 w v i wr) (fun _ i _ => 2 - (intOf i).toNat)
    case atStart => exact ⟨0, w.heap.size + 3, 0, by simp, rfl, rfl, Own.made _ [] (by simp) (by omega) rfl (by unfold maxLen; simp), Own.alloc (Own.made _ [a, b] (by simp) (by omega) rfl (by unfold maxLen; simp)) _, below4 _ _ _ _ _⟩
    case round =>
      obtain ⟨k, g, cap, hk, rfl, rfl, hout, hlist, hb⟩ := hrel
      have hle := ascOf_le (List.take k [a, b])
      have hlt' : (List.take k [a, b]).length ≤ k := List.length_take_le _ _
      by_cases hlt : k < 2
      · have HC := Lib.hid (puts_take (us := [a, b]) (k := k) (by simpa using hlt))
        obtain ⟨g', hg', _, _, hcell⟩ := hlist.cell k (by simpa using hlt)
        obtain rfl : w.heap.size + 2 = g' := by injection hg' with e; injection e
        clear hg'
        have HO := Lib.hid hout
        have HL := Lib.hid hlist
        have HB := Lib.hid hb
        generalize ([a, b])[k]'(by simpa using hlt) = x at *
        generalize ascOf (List.take k [a, b]) = ys at *
        clear hout hlist hb
        go_wp2_with fail
        refine (sPut_any w.heap.size g cap ys x _ (by simp at hk; omega) HO.out).mono ?_
        rintro e w2 ⟨g2, c2, rfl, o2, b2⟩
        have O2 := Lib.hid o2
        have B2 := Lib.hid b2
        clear o2 b2
        go_wp2_with fail
        go_roundw
        case rel => exact puts_step (by simpa using hlt) HC.out O2.out HL.out HB.out B2.out
        case measure => simp [intOf]; omega
      · obtain rfl : k = 2 := by simp at hk; omega
        have HO := Lib.hid hout
        clear hout
        go_wp2_with fail
        go_ret
        exact ⟨_, rfl, HO.out, hb⟩

set_option maxHeartbeats 2000000 in
theorem sReads_no (o a b c : Int) (e2 : (o == 2) = false) (e3 : (o == 3) = false) (e4 : (o == 4) = false) (e5 : (o == 5) = false) (e6 : (o == 6) = false) (e7 : (o == 7) = false) (e9 : (o == 9) = false) (e10 : (o == 10) = false) (e13 : (o == 13) = false) (e14 : (o == 14) = false) (e15 : (o == 15) = false) (w : World) : Calls Try.prog 12 #[.agg #[.int .i64 o, .int .i64 a, .int .i64 b, .int .i64 c]] w (RowSaid [] w) := by
  go_enter Try.func12, Try.ntmps12
  go_wp2_with fail
  go_loopw [4, 5] (fun v i wr => PutsRel ([] : List Int) (w.heap.size + 1) 0 w v i wr) (fun _ i _ => 0 - (intOf i).toNat)
  case atStart => exact ⟨0, w.heap.size + 2, 0, by simp, rfl, rfl, Own.made _ [] (by simp) (by omega) rfl (by unfold maxLen; simp), Own.alloc (Own.made _ ([] : List Int) (by simp) (by omega) rfl (by unfold maxLen; simp)) _, below3 _ _ _ _⟩
  case round =>
    obtain ⟨k, g, cap, hk, rfl, rfl, hout, hlist, hb⟩ := hrel
    have hle := ascOf_le (List.take k ([] : List Int))
    have hlt' : (List.take k ([] : List Int)).length ≤ k := List.length_take_le _ _
    by_cases hlt : k < 0
    · omega
    · obtain rfl : k = 0 := by simp at hk; omega
      have HO := Lib.hid hout
      clear hout
      go_wp2_with fail
      go_ret
      exact ⟨_, rfl, HO.out, hb⟩

theorem sReads_any (o a b c : Int) (w : World) : Calls Try.prog 12 #[.agg #[.int .i64 o, .int .i64 a, .int .i64 b, .int .i64 c]] w (RowSaid (ascOf (rawR o a b c)) w) := by
  unfold rawR
  by_cases h1 : o = 2 ∨ o = 13
  · rw [if_pos h1]; exact sReads_b o a b c h1 w
  · rw [if_neg h1]
    by_cases h2 : 3 ≤ o ∧ o ≤ 7
    · rw [if_pos h2]; exact sReads_bc o a b c (by omega) w
    · rw [if_neg h2]
      by_cases h3 : o = 9
      · rw [if_pos h3]; subst h3; exact sReads_abc a b c w
      · rw [if_neg h3]
        by_cases h4 : o = 10
        · rw [if_pos h4]; subst h4; exact sReads_a a b c w
        · rw [if_neg h4]
          by_cases h5 : o = 14 ∨ o = 15
          · rw [if_pos h5]; exact sReads_ab o a b c h5 w
          · rw [if_neg h5]
            exact sReads_no o a b c (by simp; omega) (by simp; omega) (by simp; omega) (by simp; omega) (by simp; omega) (by simp; omega) (by simp; omega) (by simp; omega) (by simp; omega) (by simp; omega) (by simp; omega) w

end Go.Proofs.Ytedcdfcamomcaaa
