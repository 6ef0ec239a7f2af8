/- SplitFields of the program. -/
import Derived.Test.YtceicbncnhmkoaaDoorFields
import Derived.Test.YtceicbncnhmkoaaDoorShelf
import Derived.WalkSpells
import Derived.WalkMore
namespace Go.Proofs.YtceicbncnhmkoaaDoor
open Go.RowKit Go

set_option maxHeartbeats 400000 in
theorem clone_any (s : ByteArray) (w : World) (hs : s.size ≤ 281474976710656) : Calls Tryd.prog 68 #[.string s] w (fun e w' => e = .returned (.string s) ∧ Below w.heap.size w w') := by
  go_enter Tryd.func68, Tryd.ntmps68
  go_wp2_with fail
  refine (Tryd.stringslite_Clone s _ hs).mono ?_
  rintro e w' ⟨rfl, hb⟩
  go_wp2_with fail
  go_ret
  exact ⟨rfl, hb⟩

def AppendSaid (base : Nat) (xs : List ByteArray) (w : World) (e : Ending) (w' : World) : Prop := ∃ v, e = .returned v ∧ Texts w' base v xs ∧ Below base w w'

set_option maxHeartbeats 400000 in
theorem appendField_none (v : Value) (xs : List ByteArray) (t : ByteArray) (w : World) (base : Nat) (ht : t.size = 0) (h : Texts w base v xs) : Calls Tryd.prog 54 #[v, .string t] w (AppendSaid base xs w) := by
  have ht2 : t.toList.isEmpty = true := by
    have hl : t.data.toList.length = t.size := by simp
    rw [Lib.toList_data, List.isEmpty_iff]
    exact List.length_eq_zero_iff.1 (by omega)
  have HT := Lib.hid ht
  have HH := Lib.hid h
  clear ht h
  go_enter Tryd.func54, Tryd.ntmps54
  go_wp2_with fail
  go_ret
  exact ⟨v, rfl, HH.out, Below.refl _ _⟩

set_option maxHeartbeats 400000 in
theorem appendField_some (v : Value) (xs : List ByteArray) (t : ByteArray) (w : World) (base : Nat) (ht : 0 < t.size) (ht2 : t.size ≤ 700) (hx : xs.length ≤ 700) (hbase : base ≤ w.heap.size) (h : Texts w base v xs) :
    Calls Tryd.prog 54 #[v, .string t] w (AppendSaid base (xs ++ [t]) w) := by
  have ht3 : t.toList.isEmpty = false := by
    rw [Lib.toList_data]
    cases he : t.data.toList with
    | nil => have : t.data.toList.length = t.size := by simp
             rw [he] at this; simp at this; omega
    | cons a b => rfl
  obtain ⟨i0, hi0, hz0, hz1, hz2⟩ := info_parts info_9
  have HH := Lib.hid h
  clear h
  go_enter Tryd.func54, Tryd.ntmps54
  go_wp2_with fail
  refine (clone_any t _ (by omega)).mono ?_
  rintro e w1 ⟨rfl, hb1⟩
  have hown := HH.out.below hb1
  have hs1 := hb1.size
  go_wp2_with (at_builtin; refine wpList_append_own _ rfl _ _ 26 rfl base 9 i0 (.string ⟨#[]⟩) 1 16 Tryd.underlying26 hi0 hz0 hz1 hz2 rfl (by decide) _ _ _ rfl (hown.alloc _) ⟨w1.heap.size, 0, none⟩ 1 1 [.string t] rfl rfl (cell_one_new _ _ _) (by simp [Value.oneCell']) (by unfold maxLen; omega) (by omega) (by simp; omega) ?_; intro v' w2 hown2 hgrow _)
  go_ret
  refine ⟨v', rfl, ?_, (hb1.mono hbase).trans (((Below.refl base w1).alloc (by omega) _).grown hgrow (by simp; omega) (fun k hk => (World.ownsRow.lt hown k hk).1))⟩
  unfold Texts
  rw [List.map_append, List.length_append]
  exact hown2

/-- appendField at the piece from b to k. -/
theorem appendPiece_any (v : Value) (xs : List ByteArray) (s : ByteArray) (b k : Nat) (w : World) (base : Nat) (hb : b ≤ k) (hk : k ≤ s.size) (hs : s.size ≤ 600) (hx : xs.length ≤ 700) (hbase : base ≤ w.heap.size) (h : Texts w base v xs) :
    Calls Tryd.prog 54 #[v, .string (s.extract b k)] w (AppendSaid base (xs ++ (if b < k then [s.extract b k] else [])) w) := by
  by_cases hlt : b < k
  · rw [if_pos hlt]
    exact appendField_some v xs _ w base (by rw [extract_size s b k hb hk]; omega) (by rw [extract_size s b k hb hk]; omega) hx hbase h
  · rw [if_neg hlt, List.append_nil]
    exact appendField_none v xs _ w base (by rw [extract_size s b k hb hk]; omega) h

set_option maxRecDepth 100000 in
set_option maxHeartbeats 1000000 in
theorem splitP_any (s : ByteArray) (w : World) : Calls Tryd.prog 34 #[.string s] w (SplitSaid s w) := by
  by_cases hs : 600 < s.size
  · have hf := fields_long hs
    have HF := Lib.hid hf
    clear hf
    go_enter Tryd.func34, Tryd.ntmps34
    go_wp2_with fail
    go_step3
    go_wp2_with fail
    rw [Exit.noGoto_ret]
    go_ret2
    exact split_end_none HF.out (World.ownsRow_nil _ _ _ _) (Below.refl _ _)
  · have hs' : s.size ≤ 600 := by omega
    clear hs
    go_enter Tryd.func34, Tryd.ntmps34
    go_wp2_with fail
    go_step3
    go_wp2_with fail
    go_step3
    go_wp2_with fail
    go_loopw [4, 5, 6] (fun v b i wr => SplitRel s w v b i wr) (fun _ _ i _ => s.size - (intOf i).toNat)
    case atStart => exact ⟨0, by omega, rfl, rfl, fun j hj => by omega, World.ownsRow_nil _ _ _ _, Below.refl _ _⟩
    case round =>
      obtain ⟨k, hk, rfl, rfl, hok, hown, hbel⟩ := hrel
      have HO := Lib.hid hok
      have HW := Lib.hid hown
      clear hok hown
      have hsc := scan_bd s k
      by_cases hlt : k < s.size
      · have hb := byteAt_eq s k hlt
        have hb2 : byteAt s k < 256 := by rw [← hb]; exact s[k].toNat_lt
        by_cases hgood : okByte (byteAt s k)
        · obtain ⟨hg1, hg2⟩ := hgood
          by_cases hsp : byteAt s k = 32
          · have hsp' : ((byteAt s k : Int) == 32) = true := by rw [hsp]; rfl
            have HSP := Lib.hid hsp
            clear hsp
            have hsb : (scan s k).2 ≤ k := hsc.1
            have hsl : (scan s k).1.length ≤ k := hsc.2
            clear hsc
            obtain ⟨n, hn⟩ : ∃ n, n = (scan s k).2 := ⟨_, rfl⟩
            rw [← hn] at hsb ⊢
            have HN := Lib.hid hn
            clear hn
            go_wp2_with fail
            refine (appendPiece_any _ _ s n k _ w.heap.size hsb hk hs' (by omega) hbel.size HW.out).mono ?_
            rintro e w1 ⟨v', rfl, hown1, hbel1⟩
            have HW1 := Lib.hid hown1
            clear hown1
            go_wp2_with fail
            go_roundw
            case rel => exact ⟨k + 1, by omega, by go_num, by rw [scan_space HSP.out]; show _ = Value.int .i64 ((k + 1 : Nat) : Int); go_num, ok_next HO.out (by constructor <;> omega), by rw [scan_space HSP.out, ← HN.out]; exact HW1.out, hbel.trans hbel1⟩
            case measure => simp [intOf]; omega
          · have hsp' : ((byteAt s k : Int) == 32) = false := by rw [beq_eq_false_iff_ne]; omega
            have HSP := Lib.hid hsp
            clear hsp hsc
            go_wp2_with fail
            go_roundw
            case rel => exact ⟨k + 1, by omega, by go_num, by rw [scan_stay HSP.out], ok_next HO.out ⟨hg1, hg2⟩, by rw [scan_stay HSP.out]; exact HW.out, hbel⟩
            case measure => simp [intOf]; omega
        · have hf := fields_bad hlt hgood
          have HF := Lib.hid hf
          have hbad : byteAt s k < 32 ∨ 126 < byteAt s k := by unfold okByte at hgood; omega
          clear hf hgood hsc HO
          rcases hbad with hbad | hbad
          all_goals go_wp2_with fail
          all_goals try rw [Exit.noGoto_ret]
          all_goals go_ret2
          all_goals exact split_end_none HF.out (World.ownsRow_nil _ _ _ _) hbel
      · obtain rfl : k = s.size := by omega
        have hsb : (scan s s.size).2 ≤ s.size := hsc.1
        have hsl : (scan s s.size).1.length ≤ s.size := hsc.2
        clear hsc
        obtain ⟨n, hn⟩ : ∃ n, n = (scan s s.size).2 := ⟨_, rfl⟩
        rw [← hn] at hsb ⊢
        have HN := Lib.hid hn
        clear hn
        go_wp2_with fail
        refine (appendPiece_any _ _ s n s.size _ w.heap.size hsb (Nat.le_refl _) hs' (by omega) hbel.size HW.out).mono ?_
        rintro e w1 ⟨v', rfl, hown1, hbel1⟩
        have hown2 : Texts w1 w.heap.size v' (allFields s) := by unfold allFields; rw [← HN.out]; exact hown1
        have HW1 := Lib.hid hown2
        clear hown1 hown2
        have hb2 := hbel.trans hbel1
        obtain ⟨a, cap, rfl⟩ := HW1.out.form
        by_cases h24 : 24 < (allFields s).length
        · have hf := fields_many h24
          have HF := Lib.hid hf
          clear hf
          go_wp2_with fail
          try rw [Exit.noGoto_ret]
          go_ret2
          exact split_end_none HF.out (World.ownsRow_nil _ _ _ _) hb2
        · have hf := fields_some hs' HO.out (by omega)
          have HF := Lib.hid hf
          clear hf
          go_wp2_with fail
          try rw [Exit.noGoto_ret]
          go_ret2
          exact split_end_some HF.out HW1.out hb2
end Go.Proofs.YtceicbncnhmkoaaDoor
