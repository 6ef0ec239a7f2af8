/- DecodeHex of the program computes dec. -/
import Derived.Test.YtgbfadfjbdjpeaaDoorDecode
import Derived.Test.YtgbfadfjbdjpeaaDoorShelf
namespace Go.Proofs.YtgbfadfjbdjpeaaDoor
open Go.RowKit Go

def hexd : ByteArray := ⟨#[48, 49, 50, 51, 52, 53, 54, 55, 56, 57, 97, 98, 99, 100, 101, 102]⟩
theorem index_val (c : Nat) (h : c < 256) : Lib.indexByte hexd.data.toList ((c : Int).toNat.toUInt8) = valOf c := by
  have : ∀ n : Fin 256, Lib.indexByte hexd.data.toList (((n.1 : Nat) : Int).toNat.toUInt8) = valOf n.1 := by decide +kernel
  exact this ⟨c, h⟩
theorem or16 (a b : Nat) (ha : a < 16) (hb : b < 16) : bits .or .i64 ((a : Int) * 16) (b : Int) = 16 * (a : Int) + b := by
  have : ∀ x y : Fin 16, bits .or .i64 ((x.1 : Int) * 16) (y.1 : Int) = 16 * (x.1 : Int) + y.1 := by decide +kernel
  exact this ⟨a, ha⟩ ⟨b, hb⟩
theorem find_any (c : Nat) (h : c < 256) (w : World) : Calls Tryd.prog 27 #[.string ⟨#[48, 49, 50, 51, 52, 53, 54, 55, 56, 57, 97, 98, 99, 100, 101, 102]⟩, .int .u8 c] w fun e w' => e = .returned (.int .i64 (valOf c)) ∧ w = w' :=
  (Tryd.strings_IndexByte hexd c w).mono fun e w' ⟨h1, h2⟩ => ⟨by rw [h1, index_val c h], h2.symm⟩

set_option maxHeartbeats 400000 in
theorem decP_any (s : ByteArray) (w : World) (hs : s.size ≤ 40000) (he : s.size % 2 = 0) : Calls Tryd.prog 12 #[.string s] w (fun e w' => e = .returned (decAns (dec s.data.toList)) ∧ Below w.heap.size w w') := by
  obtain ⟨i0, hi0, hz0, hz1, hz2⟩ := info_parts info_5
  have he' : (s.size : Int) % 2 = 0 := by omega
  go_enter Tryd.func12, Tryd.ntmps12
  go_wp2_with (at_make; refine wpList_make_own _ rfl _ _ 22 rfl w.heap.size 5 i0 (.int .u8 0) 1 Tryd.underlying22 hi0 hz0 hz1 .i64 .i64 _ (s.size / 2) rfl rfl (by omega) (by rw [hz2]; omega) (by unfold maxLen; omega) (Nat.le_refl _) ?_; intro w0 hown0 hgrow0)
  clear he'
  go_loopw [4, 5] (fun v i wr => DecRel w s v i wr) (fun _ i _ => s.size - (intOf i).toNat)
  case atStart => exact ⟨0, [], by omega, rfl, hown0, (Below.refl _ _).grown hgrow0 (Nat.le_refl _) (fun _ e => by cases e), by simp⟩
  case round =>
    obtain ⟨k, acc, hk, rfl, hown, hbel, hd⟩ := hrel
    have HD := Lib.hid hd
    clear hd
    by_cases hlt : 2 * k < s.size
    · have hb0 : s[2 * k].toNat < 256 := s[2 * k].toNat_lt
      have hb1 : s[2 * k + 1].toNat < 256 := s[2 * k + 1].toNat_lt
      have v0 := valOf_bd s[2 * k].toNat
      have v1 := valOf_bd s[2 * k + 1].toNat
      have hbad := dec_bad s k (by omega) acc HD.out
      have hgood := dec_good s k (by omega) acc HD.out
      have HB := Lib.hid hbad
      have HG := Lib.hid hgood
      clear hbad hgood HD
      go_wp2_with fail
      refine (find_any _ (by omega) _).mono ?_
      rintro e w1 ⟨rfl, rfl⟩
      go_wp2_with fail
      refine (find_any _ (by omega) _).mono ?_
      rintro e w1 ⟨rfl, rfl⟩
      generalize valOf s[2 * k].toNat = x0 at *
      generalize valOf s[2 * k + 1].toNat = x1 at *
      obtain ⟨v00, v01⟩ := v0
      obtain ⟨v10, v11⟩ := v1
      by_cases hv : x0 < 0 ∨ x1 < 0
      · have hn := HB.out hv
        have HN := Lib.hid hn
        clear hn HB HG
        rcases hv with hv | hv
        all_goals go_wp2_with fail
        all_goals go_ret2
        all_goals exact ⟨by rw [HN.out]; rfl, hbel⟩
      · have hg := HG.out hv
        have HG' := Lib.hid hg
        clear hg HB HG
        have h0 : 0 ≤ x0 := by omega
        have h1 : 0 ≤ x1 := by omega
        clear hv
        obtain ⟨n0, rfl⟩ := Int.eq_ofNat_of_zero_le h0
        obtain ⟨n1, rfl⟩ := Int.eq_ofNat_of_zero_le h1
        have hor := or16 n0 n1 (by omega) (by omega)
        go_wp2_with (at_builtin; refine wpList_append_own _ rfl _ _ 22 rfl w.heap.size 5 i0 (.int .u8 0) 1 1 Tryd.underlying22 hi0 hz0 hz1 hz2 rfl (by decide) _ _ _ rfl (hown.alloc _) ⟨wr.heap.size, 0, none⟩ 1 1 [.int .u8 (16 * (n0 : Int) + n1)] rfl rfl (cell_one_new _ _ _) (by simp [Value.oneCell']) (by unfold maxLen; omega) (by omega) (by simp; have := hbel.size; omega) ?_; intro v' w1 hown' hgrow _)
        go_roundw
        case rel => exact dec_rel (by omega) hown' (below_own1 hbel hbel.size hown hgrow) HG'.out
        case measure => simp [intOf]; omega
    · obtain hk2 : 2 * k = s.size := by omega
      have hcv := own_string hown
      have hfin := dec_end s k hk2 acc HD.out
      have HF := Lib.hid hfin
      clear hk2 hfin HD
      go_wp2_with fail
      go_ret2
      exact ⟨by rw [HF.out]; rfl, hbel⟩

theorem decP_bad (s : ByteArray) (w : World) (hm : s.size ≤ 1048576) (hs : 40000 < s.size ∨ s.size % 2 = 1) : Calls Tryd.prog 12 #[.string s] w (fun e w' => e = .returned (.tuple #[.string ⟨#[]⟩, .bool false]) ∧ w = w') := by
  by_cases h : s.size % 2 = 1
  · have h2 : (s.size : Int) % 2 = 1 := by omega
    clear hs h
    go_enter Tryd.func12, Tryd.ntmps12
    go_wp2
    go_ret2
    exact ⟨rfl, rfl⟩
  · have h2 : (s.size : Int) % 2 = 0 := by omega
    have h3 : 40000 < s.size := by omega
    clear hs h
    go_enter Tryd.func12, Tryd.ntmps12
    go_wp2
    go_ret2
    exact ⟨rfl, rfl⟩

end Go.Proofs.YtgbfadfjbdjpeaaDoor
