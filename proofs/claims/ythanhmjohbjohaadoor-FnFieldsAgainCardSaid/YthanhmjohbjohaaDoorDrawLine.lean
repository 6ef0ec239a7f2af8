/- A drawn line: not longer than 700 bytes. -/
import Derived.Test.YthanhmjohbjohaaDoorStrs
import Derived.Test.YthanhmjohbjohaaDoorFields
import Derived.Outline
namespace Go.Proofs.YthanhmjohbjohaaDoor
open Go.RowKit Go

/-- A block of texts, known as a list. -/
def StrBlock (w : World) (g : Nat) (zs : List ByteArray) : Prop := ∃ T, w.heap[g]? = some (.cells (zs.map Value.string).toArray T (0, 0))

theorem StrBlock.cell {w : World} {g : Nat} {zs : List ByteArray} (h : StrBlock w g zs) (j : Nat) (hj : j < zs.length) : w.cell? ⟨g, j, none⟩ = some (.string (zs[j])) := by
  obtain ⟨T, h⟩ := h
  simp [World.cell?, h, hj]

theorem StrBlock.kept {w w' : World} {g B : Nat} {zs : List ByteArray} (h : StrBlock w g zs) (hg : w.grownBy w' (some B)) (hne : g ≠ B) : StrBlock w' g zs := by
  obtain ⟨T, h⟩ := h
  exact ⟨T, by rw [hg.block g (lt_of_block h) (fun e => hne (by cases e; rfl))]; exact h⟩

theorem StrBlock.made (w : World) (zs : List ByteArray) (T : TypeId) : StrBlock (w.alloc (.cells (zs.map Value.string).toArray T)) w.heap.size zs := ⟨T, heap_alloc_new w _⟩

/-- A draw of a string that fits P. -/
def DrewT (base B : Nat) (P : ByteArray → Prop) (w : World) (e : Ending) (w' : World) : Prop :=
  ∃ s : ByteArray, P s ∧ e = .returned (.string s) ∧ Cur base w' B ∧ w.grownBy w' (some B)

set_option maxHeartbeats 400000 in
theorem pickStr_any {base B : Nat} (w : World) (g : Nat) (zs : List ByteArray) (n : Nat) (hz : zs.length = n) (hn : 0 < n) (hbig : n ≤ 1000000) (hne : g ≠ B) (hb : StrBlock w g zs) (hc : Cur base w B) :
    Calls Tryd.prog 14 #[.pointer (some ⟨B, 0, none⟩), .slice (some ⟨g, 0, none⟩) n n] w (DrewT base B (fun x => x ∈ zs) w) := by
  have HZ := Lib.hid hz
  clear hz
  go_enter Tryd.func14, Tryd.ntmps14
  go_wp2_with fail
  refine (below_any _ _ (by omega) hc).mono ?_
  rintro e w1 ⟨x, ⟨hx0, _, hx1⟩, rfl, hc1, hg1⟩
  have hx1 := hx1 (by omega)
  have hj : x.toNat < zs.length := by rw [HZ.out]; omega
  have hcell := (hb.kept hg1 hne).cell x.toNat hj
  have hm : zs[x.toNat] ∈ zs := List.getElem_mem hj
  generalize zs[x.toNat] = v at *
  clear hb
  go_wp2_with fail
  go_ret
  exact ⟨v, hm, rfl, hc1, hg1⟩

/-- The relation of the outer loop: k of the fields are drawn. -/
def LineRel (base B : Nat) (W : World) (n : Int) (v i : Value) (wr : World) : Prop :=
  ∃ (k : Nat) (s : ByteArray), (k : Int) ≤ n ∧ i = .int .i64 k ∧ v = .string s ∧ s.size ≤ 8 * k ∧ Cur base wr B ∧ W.grownBy wr (some B)

/-- The relation of the inner one: j bytes of the field. -/
def FieldRel (base B : Nat) (W : World) (z : Nat) (v i : Value) (wr : World) : Prop :=
  ∃ (j : Nat) (s : ByteArray), j ≤ 5 ∧ i = .int .i64 j ∧ v = .string s ∧ s.size ≤ z + j ∧ Cur base wr B ∧ W.grownBy wr (some B)

def LineSaid (w : World) (e : Ending) (w' : World) : Prop := ∃ s : ByteArray, s.size ≤ 700 ∧ e = .returned (.string s) ∧ Below w.heap.size w w'

theorem size_app2 (a b : ByteArray) : (a ++ b).size = a.size + b.size := ByteArray.size_append

set_option maxRecDepth 100000 in
set_option maxHeartbeats 4000000 in
theorem drawSplitFields_any (w : World) (a : Option Addr) (len cap : Nat) (hl : len ≤ maxLen) (hb : Bytes w.heap.size w a len) :
    Calls Tryd.prog 5 #[.slice a len cap] w (LineSaid w) := by
  have HB := Lib.hid hb
  have HL := Lib.hid hl
  clear hb hl
  go_enter Tryd.func5, Tryd.ntmps5
  go_wp2_with fail
  refine (new_any _ a len cap HL.out HB.out).mono ?_
  rintro e w0 ⟨B, rfl, hc0, hb0⟩
  have hlt0 := hc0.lt
  have hB := hc0.1
  have hs0 := hb0.size
  go_wp2_with fail
  refine (below_any _ 9 (by omega) hc0).mono ?_
  rintro e w1 ⟨n1, ⟨hn0, _, hn1⟩, rfl, hc1, hg1⟩
  have hn1 := hn1 (by omega)
  go_wp2_with fail
  refine (once_any _ 15 (by omega) hc1).mono ?_
  rintro e w2 ⟨b, rfl, hc2, hg2⟩
  have hg2 := grownBy_trans hg1 hg2
  clear hg1 hc1
  cases b
  · have hn25 : n1 ≤ 25 := by omega
    clear hn1
    obtain ⟨n, rfl⟩ : ∃ n, n = n1 := ⟨_, rfl⟩
    have hcS := hc2
    have hgS := hg2
    clear hc2 hg2 hc0
    go_wp2_with fail
    go_loopw [5, 6] (fun v i wr => LineRel w.heap.size B w0 n v i wr) (fun _ i _ => 25 - (intOf i).toNat)
    case atStart => exact ⟨0, ByteArray.empty, by omega, rfl, rfl, by simp, hcS, hgS⟩
    case round =>
      obtain ⟨k, s0, hk, rfl, rfl, hz, hcr, hg⟩ := hrel
      obtain ⟨wo, rfl⟩ : ∃ wo : World, wo = wr := ⟨_, rfl⟩
      by_cases hkn : (k : Int) < n
      · by_cases hk0 : k = 0
        · have HK := Lib.hid hk0
          have hkd : decide (0 < (k : Int)) = false := by simp; omega
          clear hk0
          go_wp2_with fail
          refine (once_any _ 5 (by omega) hcr).mono ?_
          rintro e w4 ⟨b, rfl, hcA, hg4⟩
          have hgA := grownBy_trans hg hg4
          cases b
          · have HZ : Hid (s0.size ≤ 8 * k + 3) := Lib.hid (by omega)
            go_wp2_with fail
            go_loopw [5, 7] (fun v i wr => FieldRel w.heap.size B w0 (8 * k + 3) v i wr) (fun _ i _ => 5 - (intOf i).toNat)
            case atStart => exact ⟨0, _, by omega, rfl, rfl, HZ.out, hcA, hgA⟩
            case round =>
              obtain ⟨j, s, hj, rfl, rfl, hz, hcr, hg⟩ := hrel
              go_wp2_with fail
              refine (below_any _ 5 (by omega) hcr).mono ?_
              rintro e wb ⟨x, ⟨hx0, _, hx1⟩, rfl, hcb, hgb⟩
              have hx1 := hx1 (by omega)
              by_cases hjx : (j : Int) ≤ x
              · go_wp2_with fail
                refine (below_any _ 94 (by omega) hcb).mono ?_
                rintro e wc ⟨y, ⟨hy0, _, hy1⟩, rfl, hcc, hgc⟩
                have hy1 := hy1 (by omega)
                have hcv := one_string (33 + y) wc
                have hz1 : (strOfNums [33 + y]).size = 1 := rfl
                have hz0 : s.size ≤ 700 := by omega
                go_wp2_with fail
                clear hcv
                go_roundw
                case rel => exact ⟨j + 1, _, by omega, by go_num, rfl, by rw [size_app2, hz1]; omega, hcc.alloc _, grownBy_trans hg (grownBy_trans hgb (grownBy_trans hgc (World.grownBy_alloc _ _ _)))⟩
                case measure => simp [intOf]; omega
              · have hjd : decide ((j : Int) ≤ x) = false := by simpa using hjx
                go_wp2_with fail
                go_roundw
                case rel => exact ⟨k + 1, s, by omega, by go_num, rfl, by omega, hcb, grownBy_trans hg hgb⟩
                case measure => simp [intOf]; omega
          · go_wp2_with fail
            refine (below_any _ 2 (by omega) hcA).mono ?_
            rintro e w5 ⟨x5, ⟨hx50, _, hx51⟩, rfl, hcA5, hg5⟩
            have hx51 := hx51 (by omega)
            go_wp2_with fail
            refine (below_any _ 3 (by omega) hcA5).mono ?_
            rintro e w6 ⟨x6, ⟨hx60, _, hx61⟩, rfl, hcA6, hg6⟩
            have hx61 := hx61 (by omega)
            have hm0 : 0 ≤ x5 * x6 := Int.mul_nonneg hx50 hx60
            have hm1 : x5 * x6 ≤ 1 * 2 := Int.mul_le_mul (by omega) (by omega) hx60 (by omega)
            obtain ⟨z, hz5⟩ : ∃ z : Nat, 1 + x5 * x6 = (z : Int) := ⟨(1 + x5 * x6).toNat, by omega⟩
            have hzl : z ≤ 3 := by omega
            have HZ5 := Lib.hid hz5
            clear hz5
            go_wp2_with fail
            rw [HZ5.out]
            refine (long_any _ z 32 (by omega)).mono ?_
            rintro e w7 ⟨t7, ht7, rfl, hb7⟩
            have hcB := hcA6.kept (grown_below hb7 none) (fun _ e => by cases e)
            have hgB := grownBy_trans hgA (grownBy_trans hg5 (grownBy_trans hg6 (grown_below hb7 (some B))))
            have ht7' : t7.size ≤ 3 := by omega
            have hz0' : s0.size ≤ 700 := by omega
            have HT : Hid ((s0 ++ t7).size ≤ 8 * k + 3) := Lib.hid (by rw [size_app2]; omega)
            clear ht7 hcA hgA
            have hcA := hcB
            have hgA := hgB
            have HZ := HT
            clear hcB hgB HT
            go_wp2_with fail
            clear ht7' hz0'
            go_loopw [5, 7] (fun v i wr => FieldRel w.heap.size B w0 (8 * k + 3) v i wr) (fun _ i _ => 5 - (intOf i).toNat)
            case atStart => exact ⟨0, _, by omega, rfl, rfl, HZ.out, hcA, hgA⟩
            case round =>
              obtain ⟨j, s, hj, rfl, rfl, hz, hcr, hg⟩ := hrel
              go_wp2_with fail
              refine (below_any _ 5 (by omega) hcr).mono ?_
              rintro e wb ⟨x, ⟨hx0, _, hx1⟩, rfl, hcb, hgb⟩
              have hx1 := hx1 (by omega)
              by_cases hjx : (j : Int) ≤ x
              · go_wp2_with fail
                refine (below_any _ 94 (by omega) hcb).mono ?_
                rintro e wc ⟨y, ⟨hy0, _, hy1⟩, rfl, hcc, hgc⟩
                have hy1 := hy1 (by omega)
                have hcv := one_string (33 + y) wc
                have hz1 : (strOfNums [33 + y]).size = 1 := rfl
                have hz0 : s.size ≤ 700 := by omega
                go_wp2_with fail
                clear hcv
                go_roundw
                case rel => exact ⟨j + 1, _, by omega, by go_num, rfl, by rw [size_app2, hz1]; omega, hcc.alloc _, grownBy_trans hg (grownBy_trans hgb (grownBy_trans hgc (World.grownBy_alloc _ _ _)))⟩
                case measure => simp [intOf]; omega
              · have hjd : decide ((j : Int) ≤ x) = false := by simpa using hjx
                go_wp2_with fail
                go_roundw
                case rel => exact ⟨k + 1, s, by omega, by go_num, rfl, by omega, hcb, grownBy_trans hg hgb⟩
                case measure => simp [intOf]; omega
        · have hk1 : 0 < k := by omega
          have hcA := hcr
          have hgA := hg
          clear hk0
          go_wp2_with fail
          refine (below_any _ 2 (by omega) hcA).mono ?_
          rintro e w5 ⟨x5, ⟨hx50, _, hx51⟩, rfl, hcA5, hg5⟩
          have hx51 := hx51 (by omega)
          go_wp2_with fail
          refine (below_any _ 3 (by omega) hcA5).mono ?_
          rintro e w6 ⟨x6, ⟨hx60, _, hx61⟩, rfl, hcA6, hg6⟩
          have hx61 := hx61 (by omega)
          have hm0 : 0 ≤ x5 * x6 := Int.mul_nonneg hx50 hx60
          have hm1 : x5 * x6 ≤ 1 * 2 := Int.mul_le_mul (by omega) (by omega) hx60 (by omega)
          obtain ⟨z, hz5⟩ : ∃ z : Nat, 1 + x5 * x6 = (z : Int) := ⟨(1 + x5 * x6).toNat, by omega⟩
          have hzl : z ≤ 3 := by omega
          have HZ5 := Lib.hid hz5
          clear hz5
          go_wp2_with fail
          rw [HZ5.out]
          refine (long_any _ z 32 (by omega)).mono ?_
          rintro e w7 ⟨t7, ht7, rfl, hb7⟩
          have hcB := hcA6.kept (grown_below hb7 none) (fun _ e => by cases e)
          have hgB := grownBy_trans hgA (grownBy_trans hg5 (grownBy_trans hg6 (grown_below hb7 (some B))))
          have ht7' : t7.size ≤ 3 := by omega
          have hz0' : s0.size ≤ 700 := by omega
          have HT : Hid ((s0 ++ t7).size ≤ 8 * k + 3) := Lib.hid (by rw [size_app2]; omega)
          clear ht7 hcA hgA
          have hcA := hcB
          have hgA := hgB
          have HZ := HT
          clear hcB hgB HT
          go_wp2_with fail
          clear ht7' hz0'
          go_loopw [5, 7] (fun v i wr => FieldRel w.heap.size B w0 (8 * k + 3) v i wr) (fun _ i _ => 5 - (intOf i).toNat)
          case atStart => exact ⟨0, _, by omega, rfl, rfl, HZ.out, hcA, hgA⟩
          case round =>
            obtain ⟨j, s, hj, rfl, rfl, hz, hcr, hg⟩ := hrel
            go_wp2_with fail
            refine (below_any _ 5 (by omega) hcr).mono ?_
            rintro e wb ⟨x, ⟨hx0, _, hx1⟩, rfl, hcb, hgb⟩
            have hx1 := hx1 (by omega)
            by_cases hjx : (j : Int) ≤ x
            · go_wp2_with fail
              refine (below_any _ 94 (by omega) hcb).mono ?_
              rintro e wc ⟨y, ⟨hy0, _, hy1⟩, rfl, hcc, hgc⟩
              have hy1 := hy1 (by omega)
              have hcv := one_string (33 + y) wc
              have hz1 : (strOfNums [33 + y]).size = 1 := rfl
              have hz0 : s.size ≤ 700 := by omega
              go_wp2_with fail
              clear hcv
              go_roundw
              case rel => exact ⟨j + 1, _, by omega, by go_num, rfl, by rw [size_app2, hz1]; omega, hcc.alloc _, grownBy_trans hg (grownBy_trans hgb (grownBy_trans hgc (World.grownBy_alloc _ _ _)))⟩
              case measure => simp [intOf]; omega
            · have hjd : decide ((j : Int) ≤ x) = false := by simpa using hjx
              go_wp2_with fail
              go_roundw
              case rel => exact ⟨k + 1, s, by omega, by go_num, rfl, by omega, hcb, grownBy_trans hg hgb⟩
              case measure => simp [intOf]; omega
      · go_wp2_with fail
        have hzz : s0.size ≤ 200 := by omega
        refine (below_any _ 12 (by omega) hcr).mono ?_
        rintro e w8 ⟨x8, ⟨hx80, _, hx81⟩, rfl, hc8, hg8⟩
        have hg8 := grownBy_trans hg hg8
        by_cases h80 : x8 = 0
        · subst h80
          have hsb := StrBlock.made w8 [⟨#[32]⟩, ⟨#[32, 32]⟩, ⟨#[9]⟩, ⟨#[10]⟩, ⟨#[127]⟩, ⟨#[233]⟩] 9
          have HSB := Lib.hid hsb
          have hl8 := hc8.lt
          clear hsb
          go_wp2_with fail
          refine (pickStr_any _ _ _ 6 (by rfl) (by omega) (by omega) (by omega) HSB.out (hc8.alloc _)).mono ?_
          rintro e w9 ⟨u, hu, rfl, hc9, hg9⟩
          have hu2 : u.size ≤ 2 := by
            simp only [List.mem_cons, List.not_mem_nil, or_false] at hu
            rcases hu with rfl | rfl | rfl | rfl | rfl | rfl <;> decide
          clear hu
          go_wp2_with fail
          go_ret
          exact ⟨_, by rw [size_app2]; omega, rfl, hb0.trans (grownBy_below (grownBy_trans hg8 (grownBy_trans (World.grownBy_alloc _ _ _) hg9)) hs0 (fun _ e => by cases e; exact hB))⟩
        · have k80 : (x8 == 0) = false := by simpa using h80
          by_cases h81 : x8 = 1
          · subst h81
            go_wp2_with fail
            refine (below_any _ 2 (by omega) hc8).mono ?_
            rintro e w9 ⟨x9, ⟨hx90, _, hx91⟩, rfl, hc9, hg9⟩
            have hx91 := hx91 (by omega)
            obtain ⟨z, hz9⟩ : ∃ z : Nat, 600 - (s0.size : Int) + x9 = (z : Int) := ⟨(600 - (s0.size : Int) + x9).toNat, by omega⟩
            have hzl : z ≤ 601 - s0.size := by omega
            have HZ9 := Lib.hid hz9
            clear hz9
            go_wp2_with fail
            rw [HZ9.out]
            refine (long_any _ z 32 (by omega)).mono ?_
            rintro e w10 ⟨t10, ht10, rfl, hb10⟩
            have ht : t10.size ≤ 601 - s0.size := by omega
            clear ht10
            go_wp2_with fail
            go_ret
            exact ⟨_, by rw [size_app2]; omega, rfl, hb0.trans (grownBy_below (grownBy_trans hg8 (grownBy_trans hg9 (grown_below hb10 (some B)))) hs0 (fun _ e => by cases e; exact hB))⟩
          · have k81 : (x8 == 1) = false := by simpa using h81
            go_wp2_with fail
            go_ret
            exact ⟨_, by omega, rfl, hb0.trans (grownBy_below hg8 hs0 (fun _ e => by cases e; exact hB))⟩
  · go_wp2_with fail
    refine (below_any _ 2 (by omega) hc2).mono ?_
    rintro e w3 ⟨x, ⟨hx0, _, hx1⟩, rfl, hcS, hg3⟩
    have hx1 := hx1 (by omega)
    have hgS := grownBy_trans hg2 hg3
    clear hc2 hg2 hc0 hn0 hn1
    obtain ⟨n, hn⟩ : ∃ n, n = 24 + x := ⟨_, rfl⟩
    have hn0 : 0 ≤ n := by omega
    have hn25 : n ≤ 25 := by omega
    go_wp2_with fail
    rw [← hn]
    clear hn hx0 hx1
    go_loopw [5, 6] (fun v i wr => LineRel w.heap.size B w0 n v i wr) (fun _ i _ => 25 - (intOf i).toNat)
    case atStart => exact ⟨0, ByteArray.empty, by omega, rfl, rfl, by simp, hcS, hgS⟩
    case round =>
      obtain ⟨k, s0, hk, rfl, rfl, hz, hcr, hg⟩ := hrel
      obtain ⟨wo, rfl⟩ : ∃ wo : World, wo = wr := ⟨_, rfl⟩
      by_cases hkn : (k : Int) < n
      · by_cases hk0 : k = 0
        · have HK := Lib.hid hk0
          have hkd : decide (0 < (k : Int)) = false := by simp; omega
          clear hk0
          go_wp2_with fail
          refine (once_any _ 5 (by omega) hcr).mono ?_
          rintro e w4 ⟨b, rfl, hcA, hg4⟩
          have hgA := grownBy_trans hg hg4
          cases b
          · have HZ : Hid (s0.size ≤ 8 * k + 3) := Lib.hid (by omega)
            go_wp2_with fail
            go_loopw [5, 7] (fun v i wr => FieldRel w.heap.size B w0 (8 * k + 3) v i wr) (fun _ i _ => 5 - (intOf i).toNat)
            case atStart => exact ⟨0, _, by omega, rfl, rfl, HZ.out, hcA, hgA⟩
            case round =>
              obtain ⟨j, s, hj, rfl, rfl, hz, hcr, hg⟩ := hrel
              go_wp2_with fail
              refine (below_any _ 5 (by omega) hcr).mono ?_
              rintro e wb ⟨x, ⟨hx0, _, hx1⟩, rfl, hcb, hgb⟩
              have hx1 := hx1 (by omega)
              by_cases hjx : (j : Int) ≤ x
              · go_wp2_with fail
                refine (below_any _ 94 (by omega) hcb).mono ?_
                rintro e wc ⟨y, ⟨hy0, _, hy1⟩, rfl, hcc, hgc⟩
                have hy1 := hy1 (by omega)
                have hcv := one_string (33 + y) wc
                have hz1 : (strOfNums [33 + y]).size = 1 := rfl
                have hz0 : s.size ≤ 700 := by omega
                go_wp2_with fail
                clear hcv
                go_roundw
                case rel => exact ⟨j + 1, _, by omega, by go_num, rfl, by rw [size_app2, hz1]; omega, hcc.alloc _, grownBy_trans hg (grownBy_trans hgb (grownBy_trans hgc (World.grownBy_alloc _ _ _)))⟩
                case measure => simp [intOf]; omega
              · have hjd : decide ((j : Int) ≤ x) = false := by simpa using hjx
                go_wp2_with fail
                go_roundw
                case rel => exact ⟨k + 1, s, by omega, by go_num, rfl, by omega, hcb, grownBy_trans hg hgb⟩
                case measure => simp [intOf]; omega
          · go_wp2_with fail
            refine (below_any _ 2 (by omega) hcA).mono ?_
            rintro e w5 ⟨x5, ⟨hx50, _, hx51⟩, rfl, hcA5, hg5⟩
            have hx51 := hx51 (by omega)
            go_wp2_with fail
            refine (below_any _ 3 (by omega) hcA5).mono ?_
            rintro e w6 ⟨x6, ⟨hx60, _, hx61⟩, rfl, hcA6, hg6⟩
            have hx61 := hx61 (by omega)
            have hm0 : 0 ≤ x5 * x6 := Int.mul_nonneg hx50 hx60
            have hm1 : x5 * x6 ≤ 1 * 2 := Int.mul_le_mul (by omega) (by omega) hx60 (by omega)
            obtain ⟨z, hz5⟩ : ∃ z : Nat, 1 + x5 * x6 = (z : Int) := ⟨(1 + x5 * x6).toNat, by omega⟩
            have hzl : z ≤ 3 := by omega
            have HZ5 := Lib.hid hz5
            clear hz5
            go_wp2_with fail
            rw [HZ5.out]
            refine (long_any _ z 32 (by omega)).mono ?_
            rintro e w7 ⟨t7, ht7, rfl, hb7⟩
            have hcB := hcA6.kept (grown_below hb7 none) (fun _ e => by cases e)
            have hgB := grownBy_trans hgA (grownBy_trans hg5 (grownBy_trans hg6 (grown_below hb7 (some B))))
            have ht7' : t7.size ≤ 3 := by omega
            have hz0' : s0.size ≤ 700 := by omega
            have HT : Hid ((s0 ++ t7).size ≤ 8 * k + 3) := Lib.hid (by rw [size_app2]; omega)
            clear ht7 hcA hgA
            have hcA := hcB
            have hgA := hgB
            have HZ := HT
            clear hcB hgB HT
            go_wp2_with fail
            clear ht7' hz0'
            go_loopw [5, 7] (fun v i wr => FieldRel w.heap.size B w0 (8 * k + 3) v i wr) (fun _ i _ => 5 - (intOf i).toNat)
            case atStart => exact ⟨0, _, by omega, rfl, rfl, HZ.out, hcA, hgA⟩
            case round =>
              obtain ⟨j, s, hj, rfl, rfl, hz, hcr, hg⟩ := hrel
              go_wp2_with fail
              refine (below_any _ 5 (by omega) hcr).mono ?_
              rintro e wb ⟨x, ⟨hx0, _, hx1⟩, rfl, hcb, hgb⟩
              have hx1 := hx1 (by omega)
              by_cases hjx : (j : Int) ≤ x
              · go_wp2_with fail
                refine (below_any _ 94 (by omega) hcb).mono ?_
                rintro e wc ⟨y, ⟨hy0, _, hy1⟩, rfl, hcc, hgc⟩
                have hy1 := hy1 (by omega)
                have hcv := one_string (33 + y) wc
                have hz1 : (strOfNums [33 + y]).size = 1 := rfl
                have hz0 : s.size ≤ 700 := by omega
                go_wp2_with fail
                clear hcv
                go_roundw
                case rel => exact ⟨j + 1, _, by omega, by go_num, rfl, by rw [size_app2, hz1]; omega, hcc.alloc _, grownBy_trans hg (grownBy_trans hgb (grownBy_trans hgc (World.grownBy_alloc _ _ _)))⟩
                case measure => simp [intOf]; omega
              · have hjd : decide ((j : Int) ≤ x) = false := by simpa using hjx
                go_wp2_with fail
                go_roundw
                case rel => exact ⟨k + 1, s, by omega, by go_num, rfl, by omega, hcb, grownBy_trans hg hgb⟩
                case measure => simp [intOf]; omega
        · have hk1 : 0 < k := by omega
          have hcA := hcr
          have hgA := hg
          clear hk0
          go_wp2_with fail
          refine (below_any _ 2 (by omega) hcA).mono ?_
          rintro e w5 ⟨x5, ⟨hx50, _, hx51⟩, rfl, hcA5, hg5⟩
          have hx51 := hx51 (by omega)
          go_wp2_with fail
          refine (below_any _ 3 (by omega) hcA5).mono ?_
          rintro e w6 ⟨x6, ⟨hx60, _, hx61⟩, rfl, hcA6, hg6⟩
          have hx61 := hx61 (by omega)
          have hm0 : 0 ≤ x5 * x6 := Int.mul_nonneg hx50 hx60
          have hm1 : x5 * x6 ≤ 1 * 2 := Int.mul_le_mul (by omega) (by omega) hx60 (by omega)
          obtain ⟨z, hz5⟩ : ∃ z : Nat, 1 + x5 * x6 = (z : Int) := ⟨(1 + x5 * x6).toNat, by omega⟩
          have hzl : z ≤ 3 := by omega
          have HZ5 := Lib.hid hz5
          clear hz5
          go_wp2_with fail
          rw [HZ5.out]
          refine (long_any _ z 32 (by omega)).mono ?_
          rintro e w7 ⟨t7, ht7, rfl, hb7⟩
          have hcB := hcA6.kept (grown_below hb7 none) (fun _ e => by cases e)
          have hgB := grownBy_trans hgA (grownBy_trans hg5 (grownBy_trans hg6 (grown_below hb7 (some B))))
          have ht7' : t7.size ≤ 3 := by omega
          have hz0' : s0.size ≤ 700 := by omega
          have HT : Hid ((s0 ++ t7).size ≤ 8 * k + 3) := Lib.hid (by rw [size_app2]; omega)
          clear ht7 hcA hgA
          have hcA := hcB
          have hgA := hgB
          have HZ := HT
          clear hcB hgB HT
          go_wp2_with fail
          clear ht7' hz0'
          go_loopw [5, 7] (fun v i wr => FieldRel w.heap.size B w0 (8 * k + 3) v i wr) (fun _ i _ => 5 - (intOf i).toNat)
          case atStart => exact ⟨0, _, by omega, rfl, rfl, HZ.out, hcA, hgA⟩
          case round =>
            obtain ⟨j, s, hj, rfl, rfl, hz, hcr, hg⟩ := hrel
            go_wp2_with fail
            refine (below_any _ 5 (by omega) hcr).mono ?_
            rintro e wb ⟨x, ⟨hx0, _, hx1⟩, rfl, hcb, hgb⟩
            have hx1 := hx1 (by omega)
            by_cases hjx : (j : Int) ≤ x
            · go_wp2_with fail
              refine (below_any _ 94 (by omega) hcb).mono ?_
              rintro e wc ⟨y, ⟨hy0, _, hy1⟩, rfl, hcc, hgc⟩
              have hy1 := hy1 (by omega)
              have hcv := one_string (33 + y) wc
              have hz1 : (strOfNums [33 + y]).size = 1 := rfl
              have hz0 : s.size ≤ 700 := by omega
              go_wp2_with fail
              clear hcv
              go_roundw
              case rel => exact ⟨j + 1, _, by omega, by go_num, rfl, by rw [size_app2, hz1]; omega, hcc.alloc _, grownBy_trans hg (grownBy_trans hgb (grownBy_trans hgc (World.grownBy_alloc _ _ _)))⟩
              case measure => simp [intOf]; omega
            · have hjd : decide ((j : Int) ≤ x) = false := by simpa using hjx
              go_wp2_with fail
              go_roundw
              case rel => exact ⟨k + 1, s, by omega, by go_num, rfl, by omega, hcb, grownBy_trans hg hgb⟩
              case measure => simp [intOf]; omega
      · go_wp2_with fail
        have hzz : s0.size ≤ 200 := by omega
        refine (below_any _ 12 (by omega) hcr).mono ?_
        rintro e w8 ⟨x8, ⟨hx80, _, hx81⟩, rfl, hc8, hg8⟩
        have hg8 := grownBy_trans hg hg8
        by_cases h80 : x8 = 0
        · subst h80
          have hsb := StrBlock.made w8 [⟨#[32]⟩, ⟨#[32, 32]⟩, ⟨#[9]⟩, ⟨#[10]⟩, ⟨#[127]⟩, ⟨#[233]⟩] 9
          have HSB := Lib.hid hsb
          have hl8 := hc8.lt
          clear hsb
          go_wp2_with fail
          refine (pickStr_any _ _ _ 6 (by rfl) (by omega) (by omega) (by omega) HSB.out (hc8.alloc _)).mono ?_
          rintro e w9 ⟨u, hu, rfl, hc9, hg9⟩
          have hu2 : u.size ≤ 2 := by
            simp only [List.mem_cons, List.not_mem_nil, or_false] at hu
            rcases hu with rfl | rfl | rfl | rfl | rfl | rfl <;> decide
          clear hu
          go_wp2_with fail
          go_ret
          exact ⟨_, by rw [size_app2]; omega, rfl, hb0.trans (grownBy_below (grownBy_trans hg8 (grownBy_trans (World.grownBy_alloc _ _ _) hg9)) hs0 (fun _ e => by cases e; exact hB))⟩
        · have k80 : (x8 == 0) = false := by simpa using h80
          by_cases h81 : x8 = 1
          · subst h81
            go_wp2_with fail
            refine (below_any _ 2 (by omega) hc8).mono ?_
            rintro e w9 ⟨x9, ⟨hx90, _, hx91⟩, rfl, hc9, hg9⟩
            have hx91 := hx91 (by omega)
            obtain ⟨z, hz9⟩ : ∃ z : Nat, 600 - (s0.size : Int) + x9 = (z : Int) := ⟨(600 - (s0.size : Int) + x9).toNat, by omega⟩
            have hzl : z ≤ 601 - s0.size := by omega
            have HZ9 := Lib.hid hz9
            clear hz9
            go_wp2_with fail
            rw [HZ9.out]
            refine (long_any _ z 32 (by omega)).mono ?_
            rintro e w10 ⟨t10, ht10, rfl, hb10⟩
            have ht : t10.size ≤ 601 - s0.size := by omega
            clear ht10
            go_wp2_with fail
            go_ret
            exact ⟨_, by rw [size_app2]; omega, rfl, hb0.trans (grownBy_below (grownBy_trans hg8 (grownBy_trans hg9 (grown_below hb10 (some B)))) hs0 (fun _ e => by cases e; exact hB))⟩
          · have k81 : (x8 == 1) = false := by simpa using h81
            go_wp2_with fail
            go_ret
            exact ⟨_, by omega, rfl, hb0.trans (grownBy_below hg8 hs0 (fun _ e => by cases e; exact hB))⟩

end Go.Proofs.YthanhmjohbjohaaDoor
