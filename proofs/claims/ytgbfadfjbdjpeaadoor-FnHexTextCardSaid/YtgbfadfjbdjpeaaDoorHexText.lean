/- FnHexText: a string can be decoded from its hexadecimal encoding, and longer strings are rejected. -/
import Derived.Test.YtgbfadfjbdjpeaaDoorHexP
import Derived.Test.YtgbfadfjbdjpeaaDoorDecodeP
import Derived.Test.YtgbfadfjbdjpeaaDoorStrs
import Derived.Test.YtgbfadfjbdjpeaaDoorItoa
import Derived.Test.YtgbfadfjbdjpeaaDoorNumber
namespace Go.Proofs.YtgbfadfjbdjpeaaDoor
open Go.RowKit Go

theorem bytes_ext2 {a b : ByteArray} (h : a.data.toList = b.data.toList) : a = b := by
  cases a; cases b; simp only [ByteArray.mk.injEq]; exact Array.ext' h

theorem strOfNums_list (xs : List Int) : (strOfNums xs).data.toList = xs.map fun n => UInt8.ofNat n.toNat := by
  unfold strOfNums; simp

theorem fig_val (b : Nat) (h : b < 256) : valOf (UInt8.ofNat (figOf ((b : Int) / 16)).toNat).toNat = (b : Int) / 16 ∧ valOf (UInt8.ofNat (figOf ((b : Int) % 16)).toNat).toNat = (b : Int) % 16 := by
  have : ∀ n : Fin 256, valOf (UInt8.ofNat (figOf ((n.1 : Int) / 16)).toNat).toNat = (n.1 : Int) / 16 ∧ valOf (UInt8.ofNat (figOf ((n.1 : Int) % 16)).toNat).toNat = (n.1 : Int) % 16 := by decide +kernel
  exact this ⟨b, h⟩

theorem dec_hex (l : List UInt8) : dec (strOfNums (hexL l)).data.toList = some (l.map fun b => (b.toNat : Int)) := by
  rw [strOfNums_list]
  induction l with
  | nil => rfl
  | cons b l ih =>
    have hb := fig_val b.toNat b.toNat_lt
    have e : (hexL (b :: l)).map (fun n => UInt8.ofNat n.toNat) = UInt8.ofNat (figOf ((b.toNat : Int) / 16)).toNat :: UInt8.ofNat (figOf ((b.toNat : Int) % 16)).toNat :: (hexL l).map (fun n => UInt8.ofNat n.toNat) := rfl
    rw [e, dec, hb.1, hb.2, ih, if_neg (by omega)]
    simp only [Option.map_some, List.map_cons]
    congr 2
    omega

theorem back (s : ByteArray) : strOfNums (s.data.toList.map fun b => (b.toNat : Int)) = s := by
  apply bytes_ext2
  rw [strOfNums_list, List.map_map]
  conv => rhs; rw [← List.map_id s.data.toList]
  apply List.map_congr_left
  intro b _
  simp

set_option maxHeartbeats 400000 in
theorem drawEncodeHex_any (w : World) (a : Option Addr) (len cap : Nat) (hl : len ≤ maxLen) (hb : Bytes w.heap.size w a len) :
    Calls Tryd.prog 9 #[.slice a len cap] w (fun e w' => ∃ s : ByteArray, s.size ≤ 20001 ∧ e = .returned (.string s) ∧ Below w.heap.size w w') := by
  have HB := Lib.hid hb
  have HL := Lib.hid hl
  clear hb hl
  go_enter Tryd.func9, Tryd.ntmps9
  go_wp2_with fail
  refine (new_any _ _ _ _ HL.out HB.out).mono ?_
  rintro e w1 ⟨B, rfl, hc1, hb1⟩
  clear HB HL
  go_wp2_with fail
  refine (once_any _ _ (by omega) hc1).mono ?_
  rintro e w2 ⟨b, rfl, hc2, hg2⟩
  cases b
  · go_wp2_with fail
    refine (below_any _ _ (by omega) hc2).mono ?_
    rintro e w3 ⟨x3, ⟨h30, _, h31⟩, rfl, hc3, hg3⟩
    have h31 := h31 (by omega)
    obtain ⟨n, rfl⟩ := Int.eq_ofNat_of_zero_le h30
    go_wp2_with fail
    refine (text_any _ n (by omega) hc3 (Nat.le_trans hb1.size (Nat.le_trans hg2.size hg3.size))).mono ?_
    rintro e w4 ⟨s, hs, rfl, hc4, hg4⟩
    have HS := Lib.hid hs
    clear hs
    go_wp2_with fail
    go_ret
    exact ⟨s, by rw [HS.out]; omega, rfl, hb1.trans (grownBy_below (grownBy_trans hg2 (grownBy_trans hg3 hg4)) hb1.size (fun k e => by cases e; exact hc1.1))⟩
  · go_wp2_with fail
    refine (below_any _ _ (by omega) hc2).mono ?_
    rintro e w3 ⟨x3, ⟨h30, _, h31⟩, rfl, hc3, hg3⟩
    have h31 := h31 (by omega)
    obtain ⟨n, rfl⟩ := Int.eq_ofNat_of_zero_le h30
    go_wp2_with fail
    rw [show (20000 + (n : Int)) = ((20000 + n : Nat) : Int) from by omega]
    refine (long_any _ (20000 + n) _ (by omega)).mono ?_
    rintro e w4 ⟨s, hs, rfl, hb4⟩
    have HS := Lib.hid hs
    clear hs
    go_wp2_with fail
    go_ret
    have hb3 : Below w.heap.size w w3 := hb1.trans (grownBy_below (grownBy_trans hg2 hg3) hb1.size (fun k e => by cases e; exact hc1.1))
    exact ⟨s, by rw [HS.out]; omega, rfl, hb3.trans (hb4.mono hb3.size)⟩

set_option maxHeartbeats 400000 in
theorem fnHexText_walk (a0 : Option Addr) (len0 cap0 : Nat) (z0 : List Int) (w : World) (w0 : IsRow .u8 w a0 len0 cap0 z0) (hp : Pow10 w) :
    Calls Tryd.prog 3 #[.slice a0 len0 cap0] w fun e w' => e = .returned (.bool true) ∧ Below w.heap.size w w' := by
  have HB := Lib.hid w0.bytes
  have HP := Lib.hid hp
  clear w0 hp
  by_cases hbig : 1048576 < (len0 : Int)
  · go_enter Tryd.func3, Tryd.ntmps3
    go_wp2_with fail
    refine (big_any _ _ _ _).mono ?_
    rintro e w1 ⟨rfl, rfl⟩
    go_wp2_with fail
    go_ret
    exact ⟨rfl, Below.refl _ _⟩
  · go_enter Tryd.func3, Tryd.ntmps3
    go_wp2_with fail
    refine (big_any _ _ _ _).mono ?_
    rintro e w1 ⟨rfl, rfl⟩
    go_wp2_with fail
    refine (drawEncodeHex_any _ _ _ _ HB.out.2 HB.out.1).mono ?_
    rintro e w1 ⟨s, hs, rfl, hb1⟩
    clear HB
    by_cases hlong : 20000 < s.size
    · go_wp2_with fail
      refine (encP_long s _ hlong).mono ?_
      rintro e w2 ⟨rfl, hb2⟩
      have hb := hb1.trans (hb2.mono hb1.size)
      go_wp2_with fail
      refine (fmtP_any 10 _ (by omega) (by omega) (HP.out.below hb (Nat.le_refl _))).mono ?_
      rintro e w3 ⟨rfl, hb3⟩
      rw [show (⟨(Lib.itoa 10).toArray⟩ : ByteArray) = ⟨#[49, 48]⟩ from by decide +kernel]
      go_wp2_with fail
      go_ret
      exact ⟨rfl, hb.trans (hb3.mono hb.size)⟩
    · go_wp2_with fail
      refine (encP_any s _ (by omega)).mono ?_
      rintro e w2 ⟨rfl, hb2⟩
      have hb := hb1.trans (hb2.mono hb1.size)
      have hd := dec_hex s.data.toList
      have hz : (strOfNums (hexL s.data.toList)).size = 2 * s.size := by rw [strOfNums_len, hexL_len]; simp
      generalize strOfNums (hexL s.data.toList) = h at *
      have HD := Lib.hid hd
      have HZ := Lib.hid hz
      clear hd
      go_wp2_with fail
      refine (decP_any h _ (by rw [HZ.out]; omega) (by rw [HZ.out]; omega)).mono ?_
      rintro e w3 ⟨rfl, hb3⟩
      have hbb := hb.trans (hb3.mono hb.size)
      rw [HD.out, decAns, back]
      go_wp2_with fail
      go_ret
      exact ⟨rfl, hbb⟩
end Go.Proofs.YtgbfadfjbdjpeaaDoor
