/- The contracts of the draws' cursor: a byte, a number below a bound, one out of n. -/
import Derived.Test.YtmiopbpahkgmbaaBase
import Derived.Test.YtmiopbpahkgmbaaChecked
namespace Go.Proofs.Ytmiopbpahkgmbaa
open Go.RowKit Go

def ByteSaid (B : Nat) (len : Nat) (w : World) (e : Ending) (w' : World) : Prop :=
  ∃ (x i h : Int) (n m : Nat), 0 ≤ x ∧ x ≤ 255 ∧ 0 ≤ i ∧ i ≤ len ∧ e = .returned (.int .i64 x) ∧ (w' = (w.setCell ⟨B, 2, none⟩ (.int .i64 h)).drewN n ∨ w' = (((w.setCell ⟨B, 2, none⟩ (.int .i64 h)).drewN n).setCell ⟨B, 1, none⟩ (.int .i64 i)).drewN m)

set_option maxRecDepth 100000 in
set_option maxHeartbeats 400000 in
theorem byte_walk (w : World) (B : Nat) (a : Option Addr) (len cap : Nat) (i h : Int) (hi0 : 0 ≤ i) (hil : i ≤ len) (_hlen : len ≤ 9223372036854775807)
   (hb0 : w.cell? ⟨B, 0, none⟩ = some (.slice a len cap)) (hb1 : w.cell? ⟨B, 1, none⟩ = some (.int .i64 i)) (hb2 : w.cell? ⟨B, 2, none⟩ = some (.int .i64 h))
   (hf1 : w.frozen? ⟨B, 1, none⟩ = false) (hf2 : w.frozen? ⟨B, 2, none⟩ = false)
   (hbB : i < len → ∃ (b off : Nat) (x : Int), a = some ⟨b, off, none⟩ ∧ b ≠ B ∧ w.cell? ⟨b, off + i.toNat, none⟩ = some (.int .u8 x) ∧ 0 ≤ x ∧ x ≤ 255) :
    Calls Try.prog 82 #[.pointer (some ⟨B, 0, none⟩)] w (ByteSaid B len w) := by
  go_enter Try.func82, Try.ntmps82
  have HB := Lib.hid hbB
  clear hbB
  go_wp2
  go_quiet (fail)
  have hX := and255 (bits BinOp.xor IntKind.i64 (wrap64 (wrap64 (h * 6364136223846793005) + 1442695040888963407) / 8589934592) (wrap64 (wrap64 (h * 6364136223846793005) + 1442695040888963407) / 35184372088832))
  generalize bits BinOp.and IntKind.i64 (bits BinOp.xor IntKind.i64 (wrap64 (wrap64 (h * 6364136223846793005) + 1442695040888963407) / 8589934592) (wrap64 (wrap64 (h * 6364136223846793005) + 1442695040888963407) / 35184372088832)) 255 = x0 at *
  obtain ⟨hX1, hX2⟩ := hX
  go_wp2
  by_cases hlt : i < len
  · obtain ⟨b, off, x, ha, hne, hx, hx1, hx2⟩ := HB.out hlt
    clear HB
    subst ha
    go_quiet (fail)
    go_wp2
    go_quiet (fail)
    have hY := and255 (x0 + x)
    generalize bits BinOp.and IntKind.i64 (x0 + x) 255 = y0 at *
    obtain ⟨hY1, hY2⟩ := hY
    go_wp2
    go_ret
    exact ⟨y0, i + 1, _, _, 0, hY1, hY2, by omega, by omega, rfl, .inr rfl⟩
  · clear HB
    go_quiet (fail)
    go_wp2
    go_ret
    exact ⟨x0, i, _, _, 0, hX1, hX2, hi0, hil, rfl, .inl rfl⟩

theorem byte_any {base B : Nat} (w : World) (hc : Cur base w B) : Calls Try.prog 82 #[.pointer (some ⟨B, 0, none⟩)] w (Drew base B (fun x => 0 ≤ x ∧ x ≤ 255) w) := by
  have hcur := hc
  obtain ⟨hB, a, len, cap, i, h, h1, h2, h3, h4, hb⟩ := hc
  refine (byte_walk w B a len cap i h h1 h2 (by unfold maxLen at h3; omega) (by simp [World.cell?, hb]) (by simp [World.cell?, hb]) (by simp [World.cell?, hb]) (by simp [World.frozen?, hb]) (by simp [World.frozen?, hb]) ?_).mono ?_
  · intro hlt
    obtain ⟨b, off, x, ha, hlt', hcell, h0, h1⟩ := h4 i.toNat (by omega)
    exact ⟨b, off, x, ha, by omega, hcell, h0, h1⟩
  · rintro e w' ⟨x, i', h', n, m, hx0, hx1, hi0, hi1, rfl, hw⟩
    refine ⟨x, ⟨hx0, hx1⟩, rfl, ?_⟩
    have g1 : w.grownBy ((w.setCell ⟨B, 2, none⟩ (.int .i64 h')).drewN n) (some B) := grownBy_trans (grownBy_setCell w ⟨B, 2, none⟩ _) (grownBy_drewN _ _ _)
    have b1 : ((w.setCell ⟨B, 2, none⟩ (.int .i64 h')).drewN n).heap[B]? = some (.cells #[.slice a len cap, .int .i64 i, .int .i64 h'] 87 (0, 0)) := three_set2 hb
    have lt := lt_of_block hb
    have k1 : Bytes base ((w.setCell ⟨B, 2, none⟩ (.int .i64 h')).drewN n) a len := h4.kept (fun k hk => g1.block k (by omega) (fun e => by cases e; omega))
    rcases hw with rfl | rfl
    · exact ⟨⟨hB, a, len, cap, i, h', h1, h2, h3, k1, b1⟩, g1⟩
    · have g2 : w.grownBy ((((w.setCell ⟨B, 2, none⟩ (.int .i64 h')).drewN n).setCell ⟨B, 1, none⟩ (.int .i64 i')).drewN m) (some B) := grownBy_trans g1 (grownBy_trans (grownBy_setCell _ ⟨B, 1, none⟩ _) (grownBy_drewN _ _ _))
      exact ⟨⟨hB, a, len, cap, i', h', hi0, hi1, h3, h4.kept (fun k hk => g2.block k (by omega) (fun e => by cases e; omega)), three_set1 b1⟩, g2⟩

def belowP (n x : Int) : Prop := 0 ≤ x ∧ (n ≤ 0 → x = 0) ∧ (0 < n → x < n)

set_option maxRecDepth 100000 in
set_option maxHeartbeats 400000 in
theorem below_any {base B : Nat} (w : World) (n : Int) (hn : n ≤ 9223372036854775807) (hc : Cur base w B) : Calls Try.prog 51 #[.pointer (some ⟨B, 0, none⟩), .int .i64 n] w (Drew base B (belowP n) w) := by
  by_cases h0 : n ≤ 0
  · go_enter Try.func51, Try.ntmps51
    go_wp2_with fail
    go_ret
    exact ⟨0, ⟨by omega, fun _ => rfl, fun h => h⟩, rfl, hc, grownBy_refl _ _⟩
  · by_cases h1 : n ≤ 256
    · go_enter Try.func51, Try.ntmps51
      go_wp2_with (go_at_call 82; refine (byte_any _ (by assumption)).mono ?_; rintro e w1 ⟨x, ⟨hx0, hx1⟩, rfl, hc1, hg1⟩)
      go_ret
      exact ⟨x % n, ⟨Int.emod_nonneg _ (by omega), fun h => by omega, fun h => Int.emod_lt_of_pos _ h⟩, rfl, hc1, hg1⟩
    · go_enter Try.func51, Try.ntmps51
      go_wp2_with fail
      refine (byte_any _ hc).mono ?_; rintro e w1 ⟨x1, ⟨hx1, hy1⟩, rfl, hc1, hg1⟩
      go_wp2_with fail
      refine (byte_any _ hc1).mono ?_; rintro e w2 ⟨x2, ⟨hx2, hy2⟩, rfl, hc2, hg2⟩
      go_wp2_with fail
      refine (byte_any _ hc2).mono ?_; rintro e w3 ⟨x3, ⟨hx3, hy3⟩, rfl, hc3, hg3⟩
      go_wp2_with fail
      refine (byte_any _ hc3).mono ?_; rintro e w4 ⟨x4, ⟨hx4, hy4⟩, rfl, hc4, hg4⟩
      go_wp2_with fail
      go_ret
      refine ⟨_, ⟨?_, fun h => by omega, fun h => ?_⟩, rfl, hc4, grownBy_trans (grownBy_trans hg1 hg2) (grownBy_trans hg3 hg4)⟩
      · exact Int.emod_nonneg _ (by omega)
      · exact Int.emod_lt_of_pos _ h

end Go.Proofs.Ytmiopbpahkgmbaa