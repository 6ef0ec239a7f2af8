/- The program's EncodeHex computes hexOf. -/
import Derived.Test.YtgbfadfjbdjpeaaDoorHex
namespace Go.Proofs.YtgbfadfjbdjpeaaDoor
open Go.RowKit Go

theorem and15 (c : Nat) (h : c < 256) : bits .and .u8 (c : Int) 15 = (c : Int) % 16 := by
  have : ∀ n : Fin 256, bits .and .u8 (n.1 : Int) 15 = (n.1 : Int) % 16 := by decide +kernel
  exact this ⟨c, h⟩

theorem dig_run (c : Int) (h0 : 0 ≤ c) (h : c < 16) (w : World) : (Instr.index 9 (.string ⟨#[48, 49, 50, 51, 52, 53, 54, 55, 56, 57, 97, 98, 99, 100, 101, 102]⟩) (.int .u8 c)).run Tryd.prog w = .ok (.int .u8 (figOf c)) w := by
  obtain ⟨n, rfl⟩ := Int.eq_ofNat_of_zero_le h0
  have hn : n < 16 := by omega
  have hc : n = 0 ∨ n = 1 ∨ n = 2 ∨ n = 3 ∨ n = 4 ∨ n = 5 ∨ n = 6 ∨ n = 7 ∨ n = 8 ∨ n = 9 ∨ n = 10 ∨ n = 11 ∨ n = 12 ∨ n = 13 ∨ n = 14 ∨ n = 15 := by omega
  clear h0 h hn
  rcases hc with rfl | rfl | rfl | rfl | rfl | rfl | rfl | rfl | rfl | rfl | rfl | rfl | rfl | rfl | rfl | rfl
  all_goals exact Eq.trans rfl rfl

set_option maxHeartbeats 400000 in
theorem encP_any (s : ByteArray) (w : World) (hs : s.size ≤ 20000) : Calls Tryd.prog 10 #[.string s] w (fun e w' => e = .returned (.tuple #[.string (strOfNums (hexL s.data.toList)), .bool true]) ∧ Below w.heap.size w w') := by
  obtain ⟨i0, hi0, hz0, hz1, hz2⟩ := info_parts info_5
  go_enter Tryd.func10, Tryd.ntmps10
  go_wp2_with (at_make; refine wpList_make_own _ rfl _ _ 22 rfl w.heap.size 5 i0 (.int .u8 0) 1 Tryd.underlying22 hi0 hz0 hz1 .i64 .i64 _ (2 * s.size) rfl rfl (by omega) (by rw [hz2]; omega) (by unfold maxLen; omega) (Nat.le_refl _) ?_; intro w0 hown0 hgrow0)
  go_loopw [4, 15] (fun v i wr => ∃ k : Nat, k ≤ s.size ∧ i = .int .i64 k ∧ wr.ownsRow w.heap.size 5 1 v (2 * k) ((hexL (s.data.toList.take k)).map (.int .u8)) ∧ Below w.heap.size w wr) (fun _ i _ => s.size - (intOf i).toNat)
  case atStart => exact ⟨0, by omega, rfl, hown0, (Below.refl _ _).grown hgrow0 (Nat.le_refl _) (fun _ e => by cases e)⟩
  case round =>
    obtain ⟨k, hk, rfl, hown, hbel⟩ := hrel
    by_cases hlt : k < s.size
    · have hb : s[k].toNat < 256 := s[k].toNat_lt
      have a15 := and15 s[k].toNat hb
      have d1 := dig_run ((s[k].toNat : Int) / 16) (by omega) (by omega)
      have d2 := dig_run ((s[k].toNat : Int) % 16) (by omega) (by omega)
      go_wp2_with fail
      go_region_law (first
        | (refine step_append_lies _ (by rfl) _ _ _ (by rfl) w.heap.size 5 i0 _ 1 1 Tryd.underlying22 hi0 hz0 hz1 hz2 rfl (by omega) u4 (2 * k) _ (by rfl) ((hown.alloc _).drew)
            ⟨wr.heap.size, 0, none⟩ 2 2 [.int .u8 (figOf ((s[k].toNat : Int) / 16)), .int .u8 (figOf ((s[k].toNat : Int) % 16))] (by rfl) (by rfl) (World.news_of_block (cs := #[.int .u8 (figOf ((s[k].toNat : Int) / 16)), .int .u8 (figOf ((s[k].toNat : Int) % 16))]) (t := 5) (fr := (0, 0)) (heap_alloc_new wr _)) (by simp [Value.oneCell'])
            (by omega) (by unfold maxLen; omega) (by omega) (by simp; have := hbel.size; omega) _ rfl ?_; intro gg cap w1 hown1 hgrow hat hlt))
      all_goals clear a15 d1 d2 hat
      all_goals go_wp2_with fail
      all_goals go_roundw
      all_goals first | exact hex_rel (by assumption) hown1 (below_own hbel hbel.size hown hgrow) | (simp [intOf]; omega)
    · obtain rfl : k = s.size := by omega
      have hcv := own_string hown
      rw [hexL_all] at hcv
      go_wp2_with fail
      go_ret2
      exact ⟨rfl, hbel⟩

theorem encP_long (s : ByteArray) (w : World) (hs : 20000 < s.size) : Calls Tryd.prog 10 #[.string s] w (fun e w' => e = .returned (.tuple #[.string ⟨#[]⟩, .bool false]) ∧ Below w.heap.size w w') := by
  go_enter Tryd.func10, Tryd.ntmps10
  go_wp2
  go_ret2
  exact ⟨rfl, Below.refl _ _⟩

end Go.Proofs.YtgbfadfjbdjpeaaDoor
