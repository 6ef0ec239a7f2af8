/- An argument that is a row of texts; its size. -/
import Derived.Test.YtceicbncnhmkoaaDoorTextsMore
import Derived.Deep.Strs
namespace Go.Proofs.YtceicbncnhmkoaaDoor
open Go.RowKit Go Go.ChangeShapes Go.WideShapes Go.Deep

theorem open_rowT {H : Type} {enc : TypeId × Value → H} {P : Program} {w : World} {held : Bool} {t e : TypeId} {a : Option Addr} {len cap : Nat} {d : DataW H} {pl : List MemPlace}
    (ht : P.underlying t = some (.slice e)) (he : P.underlying e = some .string) (hC : P.cellsOf e = 1)
    (h : DataW.Trod enc P w 0 (fun _ => true) held t (.slice a len cap) d pl) :
    ∃ xs : List ByteArray, len = xs.length ∧ xs.length ≤ maxLen ∧ (∀ x ∈ xs, x.size ≤ maxLen) ∧ WordRow w a xs := by
  obtain ⟨fuel, hf⟩ := h
  rcases open_strs ht he hC hf with ⟨hcs, _⟩ | ⟨b, l, c, m, Sx, hcs, _, hl, hm, hmm, _, hx⟩
  · simp [Value.cells] at hcs
    obtain ⟨rfl, rfl, rfl⟩ := hcs
    exact ⟨[], rfl, (by unfold maxLen; simp), (fun x hx => by cases hx), fun j hj => by simp at hj⟩
  · simp [Value.cells] at hcs
    obtain ⟨rfl, rfl, rfl⟩ := hcs
    have hmc : m = cap := by simpa using hmm
    refine ⟨(List.range len).map Sx, by simp, by simp; omega, fun x hx' => ?_, fun j hj => ?_⟩
    · obtain ⟨i, hi, rfl⟩ := List.mem_map.1 hx'
      exact (hx i (by have := List.mem_range.1 hi; omega)).2
    · have hj' : j < len := by simpa using hj
      have hc := (hx j (by omega)).1
      obtain ⟨bk, off, spot⟩ := b
      have hspot : spot = none := by simpa [Addr.add] using World.cell?_spot (hx 0 (by omega)).1
      subst hspot
      rw [Go.WideShapes.add_plain] at hc
      refine ⟨bk, off, rfl, World.block_lt_of_cell? w _ hc, ?_⟩
      rw [hc]
      simp

/-- What szStringS answers: no less than 0 only where the row is not too long. -/
def SzSaid (n : Nat) (e : Ending) : Prop := ∃ r : Int, e = .returned (.int .i64 r) ∧ (0 ≤ r → n ≤ 1048576) ∧ -1 ≤ r ∧ r ≤ 1048576

set_option maxHeartbeats 400000 in
theorem szS_any (w : World) (a : Option Addr) (xs : List ByteArray) (cap : Nat) (hm : xs.length ≤ maxLen) (hx : ∀ x ∈ xs, x.size ≤ maxLen) (h : WordRow w a xs) :
    Calls Tryd.prog 27 #[.slice a xs.length cap, .int .i64 1048576] w (fun e w' => SzSaid xs.length e ∧ w = w') := by
  unfold maxLen at hm hx
  have HH := Lib.hid h
  have HX := Lib.hid hx
  clear h hx
  by_cases hbig : 1048576 < xs.length
  · have hd : decide ((1048576 : Int) - (xs.length : Int) < 0) = true := by simp; omega
    go_enter Tryd.func27, Tryd.ntmps27
    go_wp2_with fail
    go_ret
    exact ⟨⟨-1, rfl, fun h => absurd h (by omega), by omega, by omega⟩, rfl⟩
  · have hs : xs.length ≤ 1048576 := by omega
    have hd : decide ((1048576 : Int) - (xs.length : Int) < 0) = false := by simp; omega
    go_enter Tryd.func27, Tryd.ntmps27
    go_wp2_with fail
    go_loop [1, 5] (fun l i => ∃ (k : Nat) (r : Int), k ≤ xs.length ∧ i = .int .i64 k ∧ l = .int .i64 r ∧ 0 ≤ r ∧ r ≤ 1048576) (fun _ i => xs.length - (intOf i).toNat)
    case atStart => exact ⟨0, _, Nat.zero_le _, rfl, rfl, by omega, by omega⟩
    case round =>
      obtain ⟨k, r, hk, rfl, rfl, hr0, hr1⟩ := hrel
      by_cases hlt : k < xs.length
      · obtain ⟨g, off, rfl, hg, c0⟩ := HH.out k hlt
        have hz := HX.out _ (List.getElem_mem hlt)
        generalize xs[k] = x at *
        by_cases hneg : r < (x.size : Int)
        · have hd2 : decide (r - (x.size : Int) < 0) = true := by simp; omega
          go_wp2_with fail
          go_ret
          exact ⟨⟨-1, rfl, fun h => absurd h (by omega), by omega, by omega⟩, rfl⟩
        · have hd2 : decide (r - (x.size : Int) < 0) = false := by simp; omega
          go_wp2_with fail
          go_round
          case rel => exact ⟨k + 1, _, hlt, by go_num, rfl, by omega, by omega⟩
          case measure => simp [intOf]; omega
      · obtain rfl : k = xs.length := by omega
        go_wp2_with fail
        go_ret
        exact ⟨⟨r, rfl, fun _ => hs, by omega, hr1⟩, rfl⟩

end Go.Proofs.YtceicbncnhmkoaaDoor
