/- The contracts of a draw: the cursor made, one number of a list picked. -/
import Derived.Test.YtmiopbpahkgmbaaDraw
import Derived.LoopTactic
namespace Go.Proofs.Ytmiopbpahkgmbaa
open Go.RowKit Go

/-- A block of whole numbers, known as a list. -/
def NumBlock (w : World) (g : Nat) (zs : List Int) : Prop := ∃ T, w.heap[g]? = some (.cells (zs.map (Value.int .i64)).toArray T (0, 0))

theorem NumBlock.cell {w : World} {g : Nat} {zs : List Int} (h : NumBlock w g zs) (j : Nat) (hj : j < zs.length) : w.cell? ⟨g, j, none⟩ = some (.int .i64 (zs[j])) := by
  obtain ⟨T, h⟩ := h
  simp [World.cell?, h, hj]

theorem NumBlock.kept {w w' : World} {g B : Nat} {zs : List Int} (h : NumBlock w g zs) (hg : w.grownBy w' (some B)) (hne : g ≠ B) : NumBlock w' g zs := by
  obtain ⟨T, h⟩ := h
  exact ⟨T, by rw [hg.block g (lt_of_block h) (fun e => hne (by cases e; rfl))]; exact h⟩

theorem NumBlock.made (w : World) (zs : List Int) (T : TypeId) : NumBlock (w.alloc (.cells (zs.map (Value.int .i64)).toArray T)) w.heap.size zs := ⟨T, heap_alloc_new w _⟩

set_option maxRecDepth 100000 in
set_option maxHeartbeats 400000 in
theorem pickInt_any {base B : Nat} (w : World) (g : Nat) (zs : List Int) (n : Nat) (hz : zs.length = n) (hn : 0 < n) (hbig : n ≤ 1000000) (hne : g ≠ B) (hb : NumBlock w g zs) (hc : Cur base w B) :
    Calls Try.prog 128 #[.pointer (some ⟨B, 0, none⟩), .slice (some ⟨g, 0, none⟩) n n] w (Drew base B (fun x => x ∈ zs) w) := by
  have HZ := Lib.hid hz
  clear hz
  go_enter Try.func128, Try.ntmps128
  go_wp2_with fail
  refine (below_any _ _ (by omega) hc).mono ?_
  rintro e w1 ⟨x, ⟨hx0, _, hx1⟩, rfl, hc1, hg1⟩
  have hx1 := hx1 (by omega)
  have hj : x.toNat < zs.length := by rw [HZ.out]; omega
  have hcell := (hb.kept hg1 hne).cell x.toNat hj
  have hm : zs[x.toNat] ∈ zs := List.getElem_mem hj
  generalize zs[x.toNat] = v at *
  clear hb
  go_wp2_with fail
  go_ret
  exact ⟨v, hm, rfl, hc1, hg1⟩

def NewSaid (w : World) (e : Ending) (w' : World) : Prop := ∃ B, e = .returned (.pointer (some ⟨B, 0, none⟩)) ∧ Cur w.heap.size w' B ∧ Below w.heap.size w w'

theorem new_end (w : World) (a : Option Addr) (len cap : Nat) (x : Int) (hl : len ≤ maxLen) (hb : Bytes w.heap.size w a len) :
    NewSaid w (.returned (.pointer (some ⟨w.heap.size, 0, none⟩))) (w.alloc (.cells #[.slice a len cap, .int .i64 0, .int .i64 x] 87)) :=
  ⟨w.heap.size, rfl, ⟨Nat.le_refl _, a, len, cap, 0, x, by omega, by omega, hl, hb.kept (fun k hk => Below.heap_alloc _ _ _ hk), heap_alloc_new w _⟩, (Below.refl _ _).alloc (Nat.le_refl _) _⟩

set_option maxRecDepth 100000 in
set_option maxHeartbeats 400000 in
theorem new_any (w : World) (a : Option Addr) (len cap : Nat) (hl : len ≤ maxLen) (hb : Bytes w.heap.size w a len) :
    Calls Try.prog 48 #[.slice a len cap] w (NewSaid w) := by
  have hl' : len ≤ 9223372036854775807 := by unfold maxLen at hl; omega
  have HB := Lib.hid hb
  have HL := Lib.hid hl
  clear hb hl
  go_enter Try.func48, Try.ntmps48
  go_wp2_with fail
  go_loop [3, 4] (fun h i => ∃ (k : Nat) (x : Int), k ≤ len ∧ k ≤ 4000 ∧ i = .int .i64 k ∧ h = .int .i64 x) (fun _ i => 4000 - (intOf i).toNat)
  case atStart => exact ⟨0, _, by omega, by omega, rfl, rfl⟩
  case round =>
    obtain ⟨k, x, hk, hk2, rfl, rfl⟩ := hrel
    by_cases hlt : k < len
    · by_cases h4 : k < 4000
      · obtain ⟨b, off, y, ha, _, hcell, hy0, hy1⟩ := HB.out k hlt
        clear HB
        subst ha
        go_wp2_with fail
        go_round
        case rel => exact ⟨k + 1, _, by omega, by omega, by go_num, rfl⟩
        case measure => simp [intOf]; omega
      · go_wp2_with fail
        go_ret
        exact new_end w a len cap x HL.out HB.out
    · go_wp2_with fail
      go_ret
      exact new_end w a len cap x HL.out HB.out
end Go.Proofs.Ytmiopbpahkgmbaa
