/- ParseUint: what both compute, the model's. -/
import Derived.Test.YtceicbncnhmkoaaDoorNumText
import Derived.Test.YtceicbncnhmkoaaDoorFormat
import Derived.Lib.Strings
namespace Go.Proofs.YtceicbncnhmkoaaDoor
open Go.RowKit Go

def puAns : Option Nat → Value
  | some n => .tuple #[.int .i64 n, .bool true]
  | none => .tuple #[.int .i64 0, .bool false]

theorem dec_lt {s : ByteArray} {k v : Nat} (hs : s.size ≤ 10) (h : Lib.decFrom 0 (s.data.toList.take k) = some v) : v < 10000000000 := by
  have h1 := Lib.decFrom_lt _ _ _ h
  have h2 : (s.data.toList.take k).length ≤ 10 := by
    have : s.data.toList.length = s.size := by simp
    rw [List.length_take]; omega
  have h3 : 10 ^ (s.data.toList.take k).length ≤ 10 ^ 10 := Nat.pow_le_pow_right (by omega) h2
  omega

theorem dec_next {s : ByteArray} {k v : Nat} (h : Lib.decFrom 0 (s.data.toList.take k) = some v) (hk : k < s.size) (h1 : 48 ≤ s[k].toNat) (h2 : s[k].toNat ≤ 57) :
    Lib.decFrom 0 (s.data.toList.take (k + 1)) = some (v * 10 + (s[k].toNat - 48)) :=
  Lib.decFrom_take _ k 0 v s[k] _ h (by rw [List.getElem?_eq_getElem (by simpa using hk)]; rfl) (by unfold Lib.digitVal; rw [if_pos ⟨h1, h2⟩])

theorem pu_bad {s : ByteArray} {k : Nat} (hk : k < s.size) (h : s[k].toNat < 48 ∨ 57 < s[k].toNat) : puOf s.data.toList = none := by
  unfold puOf
  cases hd : Lib.decFrom 0 s.data.toList with
  | none => rfl
  | some n =>
    obtain ⟨d, hv⟩ := Lib.digit_of_decFrom _ _ _ hd k s[k] (by rw [List.getElem?_eq_getElem (by simpa using hk)]; rfl)
    have := Lib.digitVal_eq hv
    omega

theorem pu_end {s : ByteArray} {v : Nat} (h : Lib.decFrom 0 (s.data.toList.take s.size) = some v) : puOf s.data.toList = if v ≤ 1000000000 ∧ Lib.itoa v = s.data.toList then some v else none := by
  rw [List.take_of_length_le (by simp)] at h
  unfold puOf
  rw [h]

theorem pu_yes {s r : ByteArray} {v : Nat} (h : puOf s.data.toList = if v ≤ 1000000000 ∧ Lib.itoa v = s.data.toList then some v else none) (hb : v ≤ 1000000000) (hr : r = ⟨(Lib.itoa v).toArray⟩) (he : r = s) : puOf s.data.toList = some v := by
  rw [h, if_pos ⟨hb, by rw [← he, hr]⟩]
theorem pu_no {s r : ByteArray} {v : Nat} (h : puOf s.data.toList = if v ≤ 1000000000 ∧ Lib.itoa v = s.data.toList then some v else none) (hr : r = ⟨(Lib.itoa v).toArray⟩) (he : r ≠ s) : puOf s.data.toList = none := by
  rw [h, if_neg (fun h => he (by rw [hr]; exact bytes_ext (by simpa using h.2)))]

theorem ret_val {a b : Value} (h : a = b) : Ending.returned a = .returned b := by rw [h]
theorem rel_next {s : ByteArray} {k v : Nat} (h : Lib.decFrom 0 (s.data.toList.take k) = some v) (hk : k < s.size) (h1 : 48 ≤ s[k].toNat) (h2 : s[k].toNat ≤ 57) :
    ∃ (j u : Nat), j ≤ s.size ∧ Value.int .i64 ((k : Int) + 1) = .int .i64 j ∧ Value.int .i64 (10 * (v : Int) + (s[k].toNat : Int) - 48) = .int .i64 u ∧ Lib.decFrom 0 (s.data.toList.take j) = some u :=
  ⟨k + 1, v * 10 + (s[k].toNat - 48), hk, by go_num, by congr 1; omega, dec_next h hk h1 h2⟩

set_option maxHeartbeats 400000 in
theorem puS_any (s : ByteArray) (w : World) : Calls Tryd.prog 48 #[.string s] w (fun e w' => e = .returned (puAns (puOf s.data.toList)) ∧ Below w.heap.size w w') := by
  by_cases hs : 10 < s.size
  · have hf := puOf_long (l := s.data.toList) (by simpa using hs)
    have HF := Lib.hid hf
    clear hf
    go_enter Tryd.func48, Tryd.ntmps48
    go_wp2_with fail
    go_ret2
    exact ⟨by rw [HF.out]; rfl, Below.refl _ _⟩
  · have hs' : s.size ≤ 10 := by omega
    clear hs
    go_enter Tryd.func48, Tryd.ntmps48
    go_wp2_with fail
    go_loop [4, 5] (fun n i => ∃ (k v : Nat), k ≤ s.size ∧ i = .int .i64 k ∧ n = .int .i64 v ∧ Lib.decFrom 0 (s.data.toList.take k) = some v) (fun _ i => s.size - (intOf i).toNat)
    case atStart => exact ⟨0, 0, by omega, rfl, rfl, by simp [Lib.decFrom]⟩
    case round =>
      obtain ⟨k, v, hk, rfl, rfl, hd⟩ := hrel
      have hv := dec_lt hs' hd
      have HD := Lib.hid hd
      clear hd
      by_cases hlt : k < s.size
      · have hb : s[k].toNat < 256 := s[k].toNat_lt
        by_cases h1 : 48 ≤ s[k].toNat
        · by_cases h2 : s[k].toNat ≤ 57
          · go_wp2_with fail
            go_round
            case rel =>
              obtain ⟨j, u, e1, e2, e3, e4⟩ := rel_next HD.out hlt h1 h2
              exact ⟨j, u, e1, e2, e3, e4⟩
            case measure => simp [intOf]; omega
          · have hbad := pu_bad hlt (by omega)
            have HB := Lib.hid hbad
            clear hbad
            go_wp2_with fail
            go_ret2
            exact ⟨by rw [HB.out]; rfl, Below.refl _ _⟩
        · have hbad := pu_bad hlt (by omega)
          have HB := Lib.hid hbad
          clear hbad
          go_wp2_with fail
          go_ret2
          exact ⟨by rw [HB.out]; rfl, Below.refl _ _⟩
      · obtain rfl : k = s.size := by omega
        have hend := pu_end HD.out
        have HE := Lib.hid hend
        clear hend HD
        by_cases hbig : v ≤ 1000000000
        · go_wp2_with fail
          refine (fmtS_any v _ (by omega) (by omega)).mono ?_
          rintro e w1 ⟨rfl, hb1⟩
          obtain ⟨r, hr⟩ : ∃ r : ByteArray, r = ⟨(Lib.itoa v).toArray⟩ := ⟨_, rfl⟩
          rw [← hr]
          have HR := Lib.hid hr
          clear hr
          by_cases heq : r = s
          · have hif := pu_yes HE.out hbig HR.out heq
            have HI := Lib.hid hif
            have hne : (r.toList == s.toList) = true := by rw [heq]; exact beq_self_eq_true _
            clear hif HR heq HE
            go_wp2_with fail
            go_ret2
            refine ⟨ret_val ?_, hb1⟩
            rw [HI.out]
            rfl
          · have hif := pu_no HE.out HR.out heq
            have HI := Lib.hid hif
            have hne : (r.toList == s.toList) = false := by rw [Lib.toList_data, Lib.toList_data, beq_eq_false_iff_ne]; exact fun h => heq (bytes_ext h)
            clear hif HR heq HE
            go_wp2_with fail
            go_ret2
            refine ⟨ret_val ?_, hb1⟩
            rw [HI.out]
            rfl
        · go_wp2_with fail
          go_ret2
          refine ⟨ret_val ?_, Below.refl _ _⟩
          rw [HE.out, if_neg (fun h => hbig h.1)]
          rfl
end Go.Proofs.YtceicbncnhmkoaaDoor
