/- FormatIns of the model. -/
import Derived.Test.YtceicbncnhmkoaaDoorLines
import Derived.Test.YtceicbncnhmkoaaDoorFmtRel
import Derived.Test.YtceicbncnhmkoaaDoorFormat
import Derived.Test.YtceicbncnhmkoaaDoorOpNameS
import Derived.Test.YtceicbncnhmkoaaDoorInsOkS
import Derived.Test.YtceicbncnhmkoaaDoorFmtInsP
namespace Go.Proofs.YtceicbncnhmkoaaDoor
open Go.RowKit Go

/-- The mask of an operation's fields. -/
def fmask : Nat → Nat
  | 0 => 0
  | 1 => 3
  | 2 => 3
  | 3 => 7
  | 4 => 7
  | 5 => 7
  | 6 => 7
  | 7 => 7
  | 8 => 1
  | 9 => 7
  | 10 => 3
  | 11 => 2
  | 12 => 0
  | 13 => 3
  | 14 => 3
  | 15 => 3
  | _ => 0

set_option maxHeartbeats 1000000 in
theorem sMask_any (k : Nat) (hk : k < 17) (w : World) : Calls Tryd.prog 45 #[.int .i64 k] w (fun e w' => e = .returned (.int .i64 (fmask k : Nat)) ∧ w = w') := by
  rcases (by omega : k = 0 ∨ k = 1 ∨ k = 2 ∨ k = 3 ∨ k = 4 ∨ k = 5 ∨ k = 6 ∨ k = 7 ∨ k = 8 ∨ k = 9 ∨ k = 10 ∨ k = 11 ∨ k = 12 ∨ k = 13 ∨ k = 14 ∨ k = 15 ∨ k = 16) with rfl | rfl | rfl | rfl | rfl | rfl | rfl | rfl | rfl | rfl | rfl | rfl | rfl | rfl | rfl | rfl | rfl
  all_goals
    clear hk
    go_enter Tryd.func45, Tryd.ntmps45
    go_wp2
    go_ret
    exact ⟨rfl, rfl⟩

def nthF (a b c : Int) : Nat → Int
  | 0 => a
  | 1 => b
  | _ => c
def bitB (m j : Nat) : Bool := m / 2 ^ j % 2 == 1
/-- The text so far, behind j fields. -/
def accS (nm : ByteArray) (m : Nat) (a b c : Int) : Nat → ByteArray
  | 0 => nm
  | j + 1 => if bitB m j = true then accS nm m a b c j ++ ⟨#[32]⟩ ++ figs (nthF a b c j) else accS nm m a b c j

theorem join_snoc (x : ByteArray) (r : List ByteArray) (y : ByteArray) : joinT (x :: (r ++ [y])) = joinT (x :: r) ++ ⟨#[32]⟩ ++ y := by
  apply bytes_ext
  unfold joinT
  simp only [List.map_cons, Lib.join_cons, Lib.joinTail, List.map_append, List.map_nil, List.flatten_append]
  simp [List.append_assoc]
theorem join_one' (x : ByteArray) : joinT [x] = x := by
  apply bytes_ext
  simp [joinT, Lib.join_one]
theorem join_two (x y : ByteArray) : joinT [x, y] = x ++ ⟨#[32]⟩ ++ y := by
  have := join_snoc x [] y
  rwa [join_one'] at this
theorem join_three (x y z : ByteArray) : joinT [x, y, z] = x ++ ⟨#[32]⟩ ++ y ++ ⟨#[32]⟩ ++ z := by
  have := join_snoc x [y] z
  rwa [join_two] at this
theorem join_four (x y z u : ByteArray) : joinT [x, y, z, u] = x ++ ⟨#[32]⟩ ++ y ++ ⟨#[32]⟩ ++ z ++ ⟨#[32]⟩ ++ u := by
  have := join_snoc x [y, z] u
  rwa [join_three] at this

theorem acc_line {k : Nat} (hk : k < 17) (a b c : Int) : accS (opN k) (fmask k) a b c 3 = lineOf k a b c := by
  unfold lineOf wordsOf
  have e65 : fld 65 a b c = a := rfl
  have e66 : fld 66 a b c = b := rfl
  have e67 : fld 67 a b c = c := rfl
  generalize opN k = nm
  rcases (by omega : k = 0 ∨ k = 1 ∨ k = 2 ∨ k = 3 ∨ k = 4 ∨ k = 5 ∨ k = 6 ∨ k = 7 ∨ k = 8 ∨ k = 9 ∨ k = 10 ∨ k = 11 ∨ k = 12 ∨ k = 13 ∨ k = 14 ∨ k = 15 ∨ k = 16) with rfl | rfl | rfl | rfl | rfl | rfl | rfl | rfl | rfl | rfl | rfl | rfl | rfl | rfl | rfl | rfl | rfl
  all_goals simp [accS, bitB, nthF, ltrs, fmask, join_one', join_two, join_three, join_four, e65, e66, e67]

theorem acc_size {nm : ByteArray} {m : Nat} {a b c : Int} (hn : nm.size ≤ 7) (ha : smallF a) (hb : smallF b) (hc : smallF c) (j : Nat) : (accS nm m a b c j).size ≤ 7 + j * 22 := by
  induction j with
  | zero => simpa [accS] using hn
  | succ j ih =>
    unfold accS
    split
    · have h1 : (figs (nthF a b c j)).size ≤ 21 := figs_size (by unfold nthF; split <;> assumption)
      have h2 : (⟨#[32]⟩ : ByteArray).size = 1 := rfl
      rw [ByteArray.size_append, ByteArray.size_append]
      omega
    · omega

theorem bit_test (m j : Nat) (hm : m ≤ 7) (hj : j < 3) : (bits .and .i64 ((m : Int) / 2 ^ j) 1 == 1) = bitB m j := by
  have h : ∀ (m : Fin 8) (j : Fin 3), (bits .and .i64 ((m.val : Int) / 2 ^ j.val) 1 == 1) = bitB m.val j.val := by decide +kernel
  exact h ⟨m, by omega⟩ ⟨j, hj⟩
theorem fmask_le {k : Nat} (hk : k < 17) : fmask k ≤ 7 := by
  have h : ∀ k : Fin 17, fmask k.val ≤ 7 := by decide
  exact h ⟨k, hk⟩

/-- A row of three numbers. -/
def Row3 (w : World) (g : Nat) (a b c : Int) : Prop := w.heap[g]? = some (.cells #[.int .i64 a, .int .i64 b, .int .i64 c] 3 (0, 0))
theorem Row3.cell {w : World} {g : Nat} {a b c : Int} (h : Row3 w g a b c) (j : Nat) (hj : j < 3) : w.cell? ⟨g, j, none⟩ = some (.int .i64 (nthF a b c j)) := by
  unfold Row3 at h
  rcases (by omega : j = 0 ∨ j = 1 ∨ j = 2) with rfl | rfl | rfl <;> simp [World.cell?, h, nthF]
theorem Row3.below {w w' : World} {g : Nat} {a b c : Int} (h : Row3 w g a b c) (hb : Below w.heap.size w w') : Row3 w' g a b c := by
  unfold Row3; rw [hb.block g (lt_of_block h)]; exact h

set_option maxRecDepth 100000 in
set_option maxHeartbeats 2000000 in
theorem sFmt_yes (k : Nat) (a b c : Int) (hk : k < 17) (hok : insOk k a b c 32 = true) (w : World) : Calls Tryd.prog 15 #[.agg #[.int .i64 k, .int .i64 a, .int .i64 b, .int .i64 c]] w (fun e w' => e = .returned (.string (lineOf k a b c)) ∧ Below w.heap.size w w') := by
  have h1 := fun W => sInsOk_any (k : Int) a b c 32 W
  rw [hok] at h1
  replace h1 := Lib.hid h1
  have h2 := fun W => sOpName_any (k : Int) W
  have hnm : nameOf (k : Int) = opN k := by unfold nameOf; rw [if_pos (inO_iff.2 (by omega)), Int.toNat_natCast]
  rw [hnm] at h2
  replace h2 := Lib.hid h2
  have h3 := Lib.hid (fun W => sMask_any k hk W)
  obtain ⟨_, ha, hb, hc⟩ := ok_small hok
  have hml := fmask_le hk
  have hn7 := (ltrs_ok ⟨k, hk⟩).2.1
  simp only at hn7
  have HL := Lib.hid (acc_line hk a b c)
  have HZ := Lib.hid (fun j => acc_size (m := fmask k) hn7 ha hb hc j)
  have HB := Lib.hid (fun j hj => bit_test (fmask k) j hml hj)
  generalize lineOf k a b c = res at *
  generalize fmask k = m at *
  generalize opN k = nm at *
  clear hok hnm
  go_enter Tryd.func15, Tryd.ntmps15
  go_wp2_with fail
  refine (h1.out _).mono ?_
  rintro e w1 ⟨rfl, b1⟩
  have K1 := Lib.hid ((Blk.new w (insC k a b c) _ rfl).grown (grown_below b1 none) (by simp))
  have B1 := Lib.hid ((below1 w _).trans (b1.mono (by simp)))
  have hlt1 := K1.out.lt
  clear b1
  have k1 := K1.out.cell
  go_wp2_with fail
  refine (h2.out _).mono ?_
  rintro e w2 ⟨rfl, b2⟩
  have K2 := Lib.hid (K1.out.below b2)
  have B2 := Lib.hid (B1.out.trans (b2.mono B1.out.size))
  have hlt2 := K2.out.lt
  have k2 := K2.out.cell
  clear b2 k1
  go_wp2_with fail
  have hI : Below w.heap.size w (w2.alloc (.cells #[.int .i64 a, .int .i64 b, .int .i64 c] 3)) := B2.out.alloc B2.out.size _
  have hR : Row3 (w2.alloc (.cells #[.int .i64 a, .int .i64 b, .int .i64 c] 3)) w2.heap.size a b c := heap_alloc_new w2 _
  have hK : Blk (w2.alloc (.cells #[.int .i64 a, .int .i64 b, .int .i64 c] 3)) w.heap.size (insC k a b c) := K2.out.alloc _
  go_loopw [3, 5] (fun s i wr => ∃ j : Nat, j ≤ 3 ∧ i = .int .i64 j ∧ s = .string (accS nm m a b c j) ∧ Row3 wr w2.heap.size a b c ∧ Blk wr w.heap.size (insC k a b c) ∧ Below w.heap.size w wr) (fun _ i _ => 3 - (intOf i).toNat)
  case atStart => exact ⟨0, by omega, rfl, rfl, hR, hK, hI⟩
  case round =>
    obtain ⟨j, hj, rfl, rfl, hR1, hK1, hB1⟩ := hrel
    clear hR hK hI
    have R1 := Lib.hid hR1
    have K3 := Lib.hid hK1
    have B3 := Lib.hid hB1
    by_cases hlt : j < 3
    · have hcell := hR1.cell j hlt
      have hk3 := hK1.cell
      have hacc : accS nm m a b c (j + 1) = if bitB m j = true then accS nm m a b c j ++ ⟨#[32]⟩ ++ figs (nthF a b c j) else accS nm m a b c j := rfl
      have hz := HZ.out j
      have hbt := HB.out j hlt
      have hx : smallF (nthF a b c j) := by unfold nthF; split <;> assumption
      have HF := Lib.hid (fun W => fmtS_any (nthF a b c j) W (by have := hx.1; omega) (by have := hx.2; omega))
      have hfz := figs_size hx
      have hz1 : (accS nm m a b c j ++ ⟨#[32]⟩).size ≤ 80 := by
        have : (⟨#[32]⟩ : ByteArray).size = 1 := rfl
        rw [ByteArray.size_append]; omega
      have hz2 : (⟨#[32]⟩ : ByteArray).size = 1 := rfl
      cases hbit : bitB m j with
      | true =>
        rw [hbit] at hbt hacc
        rw [if_pos rfl] at hacc
        have HA := Lib.hid hacc
        clear hacc hbit hR1 hK1 hB1
        generalize accS nm m a b c j = t at *
        have hz3 : t.size ≤ 80 := by omega
        clear hz
        generalize hxx : nthF a b c j = x at *
        clear hxx
        go_wp2_with fail
        refine (h3.out _).mono ?_
        rintro e w4 ⟨rfl, rfl⟩
        go_wp2_with fail
        refine (HF.out _).mono ?_
        rintro e w4 ⟨rfl, b4⟩
        have R4 := Lib.hid (R1.out.below b4)
        have K4 := Lib.hid (K3.out.below b4)
        have B4 := Lib.hid (B3.out.trans (b4.mono B3.out.size))
        clear b4
        have hfz2 : (⟨(Lib.itoa x).toArray⟩ : ByteArray).size ≤ 21 := hfz
        go_wp2_with fail
        go_roundw
        case rel => exact ⟨j + 1, hlt, by go_num, by rw [HA.out]; rfl, R4.out, K4.out, B4.out⟩
        case measure => simp [intOf]; omega
      | false =>
        rw [hbit] at hbt hacc
        rw [if_neg (by simp)] at hacc
        have HA := Lib.hid hacc
        clear hacc hbit hR1 hK1 hB1 hcell
        generalize accS nm m a b c j = t at *
        go_wp2_with fail
        refine (h3.out _).mono ?_
        rintro e w4 ⟨rfl, rfl⟩
        go_wp2_with fail
        go_roundw
        case rel => exact ⟨j + 1, hlt, by go_num, by rw [HA.out], R1.out, K3.out, B3.out⟩
        case measure => simp [intOf]; omega
    · obtain rfl : j = 3 := by omega
      rw [HL.out]
      go_wp2_with fail
      go_ret
      exact ⟨rfl, B3.out⟩

set_option maxHeartbeats 400000 in
theorem sFmt_any (o a b c : Int) (w : World) : Calls Tryd.prog 15 #[.agg #[.int .i64 o, .int .i64 a, .int .i64 b, .int .i64 c]] w (fun e w' => e = .returned (.string (insText o a b c)) ∧ Below w.heap.size w w') := by
  unfold insText
  cases hok : insOk o a b c 32 with
  | true =>
    have h := inO_iff.1 (ok_small hok).1
    obtain ⟨k, rfl⟩ := Int.eq_ofNat_of_zero_le h.1
    rw [if_pos rfl, Int.toNat_natCast]
    exact sFmt_yes k a b c (by omega) hok w
  | false =>
    rw [if_neg (by simp)]
    have h1 := fun W => sInsOk_any o a b c 32 W
    rw [hok] at h1
    replace h1 := Lib.hid h1
    clear hok
    go_enter Tryd.func15, Tryd.ntmps15
    go_wp2_with fail
    refine (h1.out _).mono ?_
    rintro e w1 ⟨rfl, b1⟩
    go_wp2_with fail
    go_ret
    exact ⟨rfl, (below1 w _).trans (b1.mono (by simp))⟩

end Go.Proofs.YtceicbncnhmkoaaDoor
