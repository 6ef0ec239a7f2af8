/- DecodeHex: what both compute. -/
import Derived.Test.YtgbfadfjbdjpeaaHexP
namespace Go.Proofs.Ytgbfadfjbdjpeaa
open Go.RowKit Go

def valOf (c : Int) : Int := if 48 ≤ c ∧ c ≤ 57 then c - 48 else if 97 ≤ c ∧ c ≤ 102 then c - 87 else -1

theorem valOf_bd (c : Int) : -1 ≤ valOf c ∧ valOf c ≤ 15 := by unfold valOf; repeat' split
                                                               all_goals omega

/-- What the text l decodes to, two letters at a time. -/
def dec : List UInt8 → Option (List Int)
  | [] => some []
  | [_] => none
  | a :: b :: t => if valOf a.toNat < 0 ∨ valOf b.toNat < 0 then none else (dec t).map (fun r => (16 * valOf a.toNat + valOf b.toNat) :: r)

theorem drop_two (s : ByteArray) (k : Nat) (h : 2 * k + 1 < s.size) : s.data.toList.drop (2 * k) = s[2 * k]'(by omega) :: s[2 * k + 1] :: s.data.toList.drop (2 * (k + 1)) := by
  have hl : s.data.toList.length = s.size := by simp
  rw [List.drop_eq_getElem_cons (by omega), List.drop_eq_getElem_cons (by omega)]
  rfl

theorem dec_bad (s : ByteArray) (k : Nat) (h : 2 * k + 1 < s.size) (acc : List Int) (hd : dec s.data.toList = (dec (s.data.toList.drop (2 * k))).map (acc ++ ·)) (hv : valOf (s[2 * k]'(by omega)).toNat < 0 ∨ valOf s[2 * k + 1].toNat < 0) : dec s.data.toList = none := by
  rw [hd, drop_two s k h, dec, if_pos hv]; rfl
theorem dec_good (s : ByteArray) (k : Nat) (h : 2 * k + 1 < s.size) (acc : List Int) (hd : dec s.data.toList = (dec (s.data.toList.drop (2 * k))).map (acc ++ ·)) (hv : ¬ (valOf (s[2 * k]'(by omega)).toNat < 0 ∨ valOf s[2 * k + 1].toNat < 0)) :
    dec s.data.toList = (dec (s.data.toList.drop (2 * (k + 1)))).map ((acc ++ [16 * valOf (s[2 * k]'(by omega)).toNat + valOf s[2 * k + 1].toNat]) ++ ·) := by
  rw [hd, drop_two s k h, dec, if_neg hv]
  cases dec (s.data.toList.drop (2 * (k + 1))) <;> simp
theorem dec_end (s : ByteArray) (k : Nat) (h : 2 * k = s.size) (acc : List Int) (hd : dec s.data.toList = (dec (s.data.toList.drop (2 * k))).map (acc ++ ·)) : dec s.data.toList = some acc := by
  rw [hd, h, List.drop_of_length_le (by simp)]; simp [dec]

/-- The answer of DecodeHex. -/
def decAns : Option (List Int) → Value
  | some xs => .tuple #[.string (strOfNums xs), .bool true]
  | none => .tuple #[.string ⟨#[]⟩, .bool false]

/-- The relation of both loops. -/
def DecRel (W : World) (s : ByteArray) (v i : Value) (wr : World) : Prop :=
  ∃ (k : Nat) (acc : List Int), 2 * k ≤ s.size ∧ i = .int .i64 (2 * k : Nat) ∧ wr.ownsRow W.heap.size 5 1 v k (acc.map (.int .u8)) ∧ Below W.heap.size W wr ∧ dec s.data.toList = (dec (s.data.toList.drop (2 * k))).map (acc ++ ·)

theorem dec_rel {W w1 : World} {s : ByteArray} {v : Value} {k : Nat} {acc : List Int} {x : Int} (h : 2 * k + 2 ≤ s.size)
    (hown : w1.ownsRow W.heap.size 5 1 v (k + 1) (acc.map (.int .u8) ++ [.int .u8 x])) (hb : Below W.heap.size W w1) (hd : dec s.data.toList = (dec (s.data.toList.drop (2 * (k + 1)))).map ((acc ++ [x]) ++ ·)) :
    DecRel W s v (.int .i64 (2 * (k : Int) + 2)) w1 :=
  ⟨k + 1, acc ++ [x], by omega, by go_num, by rw [List.map_append]; exact hown, hb, hd⟩

theorem below_own1 {B : Nat} {W w w1 : World} {v : Value} {o : Obj} {e : TypeId} {size n : Nat} {xs : List Value} (hb : Below B W w) (hB : B ≤ w.heap.size) (hown : w.ownsRow B e size v n xs) (hg : (w.alloc o).grownBy w1 v.ownBlock) : Below B W w1 :=
  (hb.alloc hB o).grown hg (by simp; omega) (fun k hk => (hown.lt k hk).1)

theorem val_any (c : Int) (w : World) (h0 : 0 ≤ c) (h1 : c < 256) : Calls Try.prog 26 #[.int .u8 c] w (fun e w' => e = .returned (.int .i64 (valOf c)) ∧ w = w') := by
  go_enter Try.func26, Try.ntmps26
  go_wp2
  all_goals go_ret
  all_goals exact ⟨ret_int (by unfold valOf; repeat' split
                               all_goals omega), rfl⟩

set_option maxHeartbeats 400000 in
theorem decS_any (s : ByteArray) (w : World) (hs : s.size ≤ 40000) (he : s.size % 2 = 0) : Calls Try.prog 13 #[.string s] w (fun e w' => e = .returned (decAns (dec s.data.toList)) ∧ Below w.heap.size w w') := by
  obtain ⟨i0, hi0, hz0, hz1, hz2⟩ := info_parts info_5
  have he' : (s.size : Int) % 2 = 0 := by omega
  go_enter Try.func13, Try.ntmps13
  go_wp2_with fail
  clear he'
  go_loopw [4, 5] (fun v i wr => DecRel w s v i wr) (fun _ i _ => s.size - (intOf i).toNat)
  case atStart => exact ⟨0, [], by omega, rfl, World.ownsRow_made w #[] 0 (Nat.le_refl _) (by unfold maxLen; omega) rfl, (Below.refl _ _).alloc (Nat.le_refl _) _, by simp⟩
  case round =>
    obtain ⟨k, acc, hk, rfl, hown, hbel, hd⟩ := hrel
    have HD := Lib.hid hd
    clear hd
    by_cases hlt : 2 * k < s.size
    · have hb0 : s[2 * k].toNat < 256 := s[2 * k].toNat_lt
      have hb1 : s[2 * k + 1].toNat < 256 := s[2 * k + 1].toNat_lt
      have v0 := valOf_bd s[2 * k].toNat
      have v1 := valOf_bd s[2 * k + 1].toNat
      have hbad := dec_bad s k (by omega) acc HD.out
      have hgood := dec_good s k (by omega) acc HD.out
      have HB := Lib.hid hbad
      have HG := Lib.hid hgood
      clear hbad hgood HD
      go_wp2_with fail
      refine (val_any _ _ (by omega) (by omega)).mono ?_
      rintro e w1 ⟨rfl, rfl⟩
      go_wp2_with fail
      refine (val_any _ _ (by omega) (by omega)).mono ?_
      rintro e w1 ⟨rfl, rfl⟩
      generalize valOf s[2 * k].toNat = x0 at *
      generalize valOf s[2 * k + 1].toNat = x1 at *
      obtain ⟨v00, v01⟩ := v0
      obtain ⟨v10, v11⟩ := v1
      by_cases hv : x0 < 0 ∨ x1 < 0
      · have hn := HB.out hv
        have HN := Lib.hid hn
        clear hn HB HG
        rcases hv with hv | hv
        all_goals go_wp2_with fail
        all_goals go_ret2
        all_goals exact ⟨by rw [HN.out]; rfl, hbel⟩
      · have hg := HG.out hv
        have HG' := Lib.hid hg
        clear hg HB HG
        have h0 : 0 ≤ x0 := by omega
        have h1 : 0 ≤ x1 := by omega
        clear hv
        go_wp2_with (at_builtin; refine wpList_append_own _ rfl _ _ 22 rfl w.heap.size 5 i0 (.int .u8 0) 1 1 Try.underlying22 hi0 hz0 hz1 hz2 rfl (by decide) _ _ _ rfl (hown.alloc _) ⟨wr.heap.size, 0, none⟩ 1 1 [.int .u8 (16 * x0 + x1)] rfl rfl (cell_one_new _ _ _) (by simp [Value.oneCell']) (by unfold maxLen; omega) (by omega) (by simp; have := hbel.size; omega) ?_; intro v' w1 hown' hgrow _)
        go_roundw
        case rel => exact dec_rel (by omega) hown' (below_own1 hbel hbel.size hown hgrow) HG'.out
        case measure => simp [intOf]; omega
    · obtain hk2 : 2 * k = s.size := by omega
      have hcv := own_string hown
      have hfin := dec_end s k hk2 acc HD.out
      have HF := Lib.hid hfin
      clear hk2 hfin HD
      go_wp2_with fail
      go_ret2
      exact ⟨by rw [HF.out]; rfl, hbel⟩
end Go.Proofs.Ytgbfadfjbdjpeaa
