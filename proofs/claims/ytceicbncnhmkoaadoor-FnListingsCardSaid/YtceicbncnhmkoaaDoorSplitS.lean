/- SplitFields of the model. -/
import Derived.Test.YtceicbncnhmkoaaDoorFields
import Derived.WalkSpells
namespace Go.Proofs.YtceicbncnhmkoaaDoor
open Go.RowKit Go

/-- The relation of the model's loop, which goes one byte further. -/
def SplitRelS (s : ByteArray) (W : World) (v b i : Value) (wr : World) : Prop :=
  SplitRel s W v b i wr ∨ (∃ n : Nat, i = .int .i64 ((s.size : Int) + 1) ∧ b = .int .i64 n ∧ (∀ j, j < s.size → okByte (byteAt s j)) ∧ Texts wr W.heap.size v (allFields s) ∧ Below W.heap.size W wr)

theorem texts_made (w : World) : Texts (w.alloc (.cells #[] 9)) w.heap.size (.slice (some ⟨w.heap.size, 0, none⟩) 0 0) [] := World.ownsRow_made w #[] 0 (Nat.le_refl _) (by unfold maxLen; omega) rfl

theorem texts_made_later {W w : World} (hb : Below W.heap.size W w) : Texts (w.alloc (.cells #[] 9)) W.heap.size (.slice (some ⟨w.heap.size, 0, none⟩) 0 0) [] := World.ownsRow_made w #[] 0 hb.size (by unfold maxLen; omega) rfl

theorem texts_snoc {w1 : World} {b n : Nat} {v : Value} {xs : List ByteArray} {t : ByteArray} (hn : n = xs.length) (h : w1.ownsRow b 9 1 v (n + 1) (xs.map .string ++ [.string t])) : Texts w1 b v (xs ++ [t]) := by
  subst hn
  unfold Texts
  rw [List.map_append, List.length_append]
  exact h

set_option maxRecDepth 100000 in
set_option maxHeartbeats 1000000 in
theorem splitS_any (s : ByteArray) (w : World) : Calls Tryd.prog 47 #[.string s] w (SplitSaid s w) := by
  by_cases hs : 600 < s.size
  · have hf := fields_long hs
    have HF := Lib.hid hf
    clear hf
    go_enter Tryd.func47, Tryd.ntmps47
    go_wp2_with fail
    go_ret2
    exact split_end_none HF.out (texts_made w) ((Below.refl _ _).alloc (Nat.le_refl _) _)
  · have hs' : s.size ≤ 600 := by omega
    clear hs
    obtain ⟨i0, hi0, hz0, hz1, hz2⟩ := info_parts info_9
    go_enter Tryd.func47, Tryd.ntmps47
    go_wp2_with fail
    go_loopw [4, 5, 6] (fun v b i wr => SplitRelS s w v b i wr) (fun _ _ i _ => s.size + 1 - (intOf i).toNat)
    case atStart => exact .inl ⟨0, by omega, rfl, rfl, fun j hj => by omega, texts_made w, (Below.refl _ _).alloc (Nat.le_refl _) _⟩
    case round =>
      rcases hrel with ⟨k, hk, rfl, rfl, hok, hown, hbel⟩ | ⟨n, rfl, rfl, hok, hown, hbel⟩
      · have HO := Lib.hid hok
        have hsc := scan_bd s k
        have hsb : (scan s k).2 ≤ k := hsc.1
        have hsl : (scan s k).1.length ≤ k := hsc.2
        clear hsc hok
        have hsz := hbel.size
        by_cases hlt : k < s.size
        · have hb := byteAt_eq s k hlt
          have hb2 : byteAt s k < 256 := by rw [← hb]; exact s[k].toNat_lt
          by_cases hgood : okByte (byteAt s k)
          · obtain ⟨hg1, hg2⟩ := hgood
            by_cases hsp : byteAt s k = 32
            · have hsp' : ((byteAt s k : Int) != 32) = false := by rw [hsp]; rfl
              have hx := scan_space hsp
              have HX := Lib.hid hx
              clear hsp hx
              obtain ⟨xs, n, hxn⟩ : ∃ xs n, scan s k = (xs, n) := ⟨_, _, rfl⟩
              rw [hxn] at hsb hsl hown ⊢
              have HN := Lib.hid hxn
              clear hxn
              simp only at hsb hsl hown ⊢
              by_cases hnk : n < k
              · have hst : (s.extract n k).size ≤ 600 := by rw [extract_size s n k hsb hk]; omega
                go_wp2_with (at_builtin; refine wpList_append_own _ rfl _ _ 26 rfl w.heap.size 9 i0 (.string ⟨#[]⟩) 1 16 Tryd.underlying26 hi0 hz0 hz1 hz2 rfl (by decide) _ _ _ rfl (hown.alloc _) ⟨wr.heap.size, 0, none⟩ 1 1 [.string (s.extract n k)] rfl rfl (cell_one_new _ _ _) (by simp [Value.oneCell']) (by unfold maxLen; omega) (by omega) (by simp; omega) ?_; intro v' w1 hown1 hgrow _)
                go_roundw
                case rel =>
                  refine .inl ⟨k + 1, by omega, by go_num, ?_, ok_next HO.out (by constructor <;> omega), ?_, below_own1 hbel hbel.size hown hgrow⟩
                  · rw [HX.out]; show _ = Value.int .i64 ((k + 1 : Nat) : Int); go_num
                  · rw [HX.out, HN.out, if_pos hnk]; exact texts_snoc rfl hown1
                case measure => simp [intOf]; omega
              · go_wp2_with fail
                go_roundw
                case rel =>
                  refine .inl ⟨k + 1, by omega, by go_num, ?_, ok_next HO.out (by constructor <;> omega), ?_, hbel⟩
                  · rw [HX.out]; show _ = Value.int .i64 ((k + 1 : Nat) : Int); go_num
                  · rw [HX.out, HN.out, if_neg hnk, List.append_nil]; exact hown
                case measure => simp [intOf]; omega
            · have hsp' : ((byteAt s k : Int) != 32) = true := by rw [bne_iff_ne]; omega
              have HSP := Lib.hid hsp
              have HW := Lib.hid hown
              clear hsp hown
              go_wp2_with fail
              go_roundw
              case rel => exact .inl ⟨k + 1, by omega, by go_num, by rw [scan_stay HSP.out], ok_next HO.out ⟨hg1, hg2⟩, by rw [scan_stay HSP.out]; exact HW.out, hbel⟩
              case measure => simp [intOf]; omega
          · have hf := fields_bad hlt hgood
            have HF := Lib.hid hf
            have hbad : byteAt s k < 32 ∨ 126 < byteAt s k := by unfold okByte at hgood; omega
            clear hf hgood HO hown
            rcases hbad with hbad | hbad
            all_goals go_wp2_with fail
            all_goals go_ret2
            all_goals exact split_end_none HF.out (texts_made_later hbel) (hbel.alloc hbel.size _)
        · obtain rfl : k = s.size := by omega
          have hall : allFields s = (scan s s.size).1 ++ (if (scan s s.size).2 < s.size then [s.extract (scan s s.size).2 s.size] else []) := rfl
          obtain ⟨xs, n, hxn⟩ : ∃ xs n, scan s s.size = (xs, n) := ⟨_, _, rfl⟩
          rw [hxn] at hsb hsl hown hall ⊢
          simp only at hsb hsl hown hall ⊢
          have HA := Lib.hid hall
          clear hall hxn
          by_cases hnk : n < s.size
          · have hst : (s.extract n s.size).size ≤ 600 := by rw [extract_size s n s.size hsb hk]; omega
            go_wp2_with (at_builtin; refine wpList_append_own _ rfl _ _ 26 rfl w.heap.size 9 i0 (.string ⟨#[]⟩) 1 16 Tryd.underlying26 hi0 hz0 hz1 hz2 rfl (by decide) _ _ _ rfl (hown.alloc _) ⟨wr.heap.size, 0, none⟩ 1 1 [.string (s.extract n s.size)] rfl rfl (cell_one_new _ _ _) (by simp [Value.oneCell']) (by unfold maxLen; omega) (by omega) (by simp; omega) ?_; intro v' w1 hown1 hgrow _)
            go_roundw
            case rel => exact .inr ⟨s.size + 1, rfl, by go_num, HO.out, by rw [HA.out, if_pos hnk]; exact texts_snoc rfl hown1, below_own1 hbel hbel.size hown hgrow⟩
            case measure => simp [intOf]
          · go_wp2_with fail
            go_roundw
            case rel => exact .inr ⟨s.size + 1, rfl, by go_num, HO.out, by rw [HA.out, if_neg hnk, List.append_nil]; exact hown, hbel⟩
            case measure => simp [intOf]
      · have HO := Lib.hid hok
        have HW := Lib.hid hown
        clear hok
        obtain ⟨a, cap, rfl⟩ := hown.form
        clear hown
        by_cases h24 : 24 < (allFields s).length
        · have hf := fields_many h24
          have HF := Lib.hid hf
          clear hf HW
          go_wp2_with fail
          go_ret2
          exact split_end_none HF.out (texts_made_later hbel) (hbel.alloc hbel.size _)
        · have hf := fields_some hs' HO.out (by omega)
          have HF := Lib.hid hf
          clear hf
          go_wp2_with fail
          go_ret2
          exact split_end_some HF.out HW.out hbel
end Go.Proofs.YtceicbncnhmkoaaDoor
