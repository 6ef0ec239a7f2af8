/- FnWords: sums can be undone, products commute, and of two words at most one is less. -/
import Derived.Test.YthanhmjohbjohaaDrawNums
import Derived.Test.YthanhmjohbjohaaAreWords
import Derived.Test.YthanhmjohbjohaaNumber
namespace Go.Proofs.Ythanhmjohbjohaa
open Go.RowKit Go

theorem addW_eq {a b : Int} (ha : wordP a) (hb : wordP b) : addW a b = (a + b) % 65536 := by
  unfold addW ofWords; rw [if_pos ⟨isW_mk ha.1 ha.2, isW_mk hb.1 hb.2⟩]
theorem subW_eq {a b : Int} (ha : wordP a) (hb : wordP b) : subW a b = (a - b) % 65536 := by
  unfold subW ofWords; rw [if_pos ⟨isW_mk ha.1 ha.2, isW_mk hb.1 hb.2⟩]
theorem mulW_comm (a b : Int) : mulW a b = mulW b a := by
  unfold mulW ofWords
  by_cases h : isW a = true ∧ isW b = true
  · rw [if_pos h, if_pos h.symm]; dsimp only; rw [Int.mul_comm]
  · rw [if_neg h, if_neg (fun k => h k.symm)]
theorem addW_comm (a b : Int) : addW a b = addW b a := by
  unfold addW ofWords
  by_cases h : isW a = true ∧ isW b = true
  · rw [if_pos h, if_pos h.symm]; dsimp only; rw [Int.add_comm]
  · rw [if_neg h, if_neg (fun k => h k.symm)]
theorem lessW_eq {a b : Int} (ha : wordP a) (hb : wordP b) : lessW a b = if a < b then 1 else 0 := by
  unfold lessW ofWords; rw [if_pos ⟨isW_mk ha.1 ha.2, isW_mk hb.1 hb.2⟩]
theorem wordP_mod (n : Int) : wordP (n % 65536) := ⟨Int.emod_nonneg _ (by omega), Int.emod_lt_of_pos _ (by omega)⟩
theorem sub_add {a b : Int} (ha : wordP a) (hb : wordP b) : subW (addW a b) b = a := by
  rw [addW_eq ha hb, subW_eq (wordP_mod _) hb]
  obtain ⟨h0, h1⟩ := ha
  omega

theorem three_cells (w : World) (B : Nat) (a b s : Int) (ha : i64R a) (hb : i64R b) (hs : i64R s) (hB : w.heap.size < B) : Nums B (w.alloc (.cells #[.int .i64 a, .int .i64 b, .int .i64 s] 3)) (some ⟨w.heap.size, 0, none⟩) [a, b, s] := by
  have hh := heap_alloc_new w (.cells #[.int .i64 a, .int .i64 b, .int .i64 s] 3)
  refine ⟨?_, fun j hj => ⟨w.heap.size, 0, rfl, hB, ?_⟩⟩
  · intro x hx
    simp only [List.mem_cons, List.not_mem_nil, or_false] at hx
    rcases hx with rfl | rfl | rfl <;> assumption
  · have hj' : j = 0 ∨ j = 1 ∨ j = 2 := by simp at hj; omega
    rcases hj' with rfl | rfl | rfl <;> (unfold World.cell?; rw [hh]; rfl)

/-- The last line of the law, for a and b that are words: one of three cases of less. -/
theorem less_cases {a b : Int} (ha : wordP a) (hb : wordP b) : ∃ l1 l2 : Int, lessW a b = l1 ∧ lessW b a = l2 ∧ ((l1 = 0 ∧ l2 = 0 ∧ a = b) ∨ (l1 = 1 ∧ l2 = 0 ∧ a ≠ b) ∨ (l1 = 0 ∧ l2 = 1 ∧ a ≠ b)) := by
  refine ⟨_, _, lessW_eq ha hb, lessW_eq hb ha, ?_⟩
  split <;> split <;> omega

set_option maxHeartbeats 1000000 in
theorem fnWords_walk (a : Option Addr) (len cap : Nat) (zs : List Int) (w : World) (hr : IsRow .u8 w a len cap zs) :
    Calls Try.prog 3 #[.slice a len cap] w fun e w' => e = .returned (.bool true) ∧ Below w.heap.size w w' := by
  have hl := hr.bytes.2
  have HBy := Lib.hid hr.bytes.1
  have HL := Lib.hid hl
  clear hr
  by_cases hbig : 1048576 < len
  · have hd : decide (1048576 < (len : Int)) = true := by simp; omega
    have HD := Lib.hid hd
    clear hd hl hbig
    go_enter Try.func3, Try.ntmps3
    go_wp2_with fail
    refine (big_any _ a len cap).mono ?_
    rw [HD.out]
    rintro e w' ⟨rfl, rfl⟩
    go_wp2_with fail
    go_ret
    exact ⟨rfl, Below.refl _ _⟩
  · have hd : decide (1048576 < (len : Int)) = false := by simp; omega
    have HD := Lib.hid hd
    clear hd hl hbig
    go_enter Try.func3, Try.ntmps3
    go_wp2_with fail
    refine (big_any _ a len cap).mono ?_
    rw [HD.out]
    rintro e w' ⟨rfl, rfl⟩
    go_wp2_with fail
    refine (drawWord_any _ a len cap HL.out HBy.out).mono ?_
    rintro e w1 ⟨x, hx, rfl, hb1⟩
    have s1 := hb1.size
    have HB1 := Lib.hid (HBy.out.kept (w' := w1) (fun k hk => hb1.block k hk))
    go_wp2_with fail
    refine (places_any _ a len cap HL.out (fun j hj => by obtain ⟨b, off, y, h1, h2, h3⟩ := HB1.out j hj; exact ⟨b, off, y, h1, by omega, h3⟩)).mono ?_
    rintro e w2 ⟨v, ps, hps, hP, rfl, own, hb2⟩
    obtain ⟨pa, pc, rfl⟩ := own.form
    obtain ⟨g, rfl, _, _, hc⟩ := own.cell 0 (by omega)
    have hp0 := hP _ (List.getElem_mem (by omega : 0 < ps.length))
    have hb : wordP (ps[0] * 7 % 65536) := wordP_mod _
    obtain ⟨p0, p1⟩ := hp0
    have HPS := Lib.hid hps
    generalize ps[0] = p at *
    clear hP own hps
    have hB2 := Lib.hid (hb1.trans (hb2.mono s1))
    have s2 := (hb1.trans (hb2.mono s1)).size
    clear hb1 hb2 s1 HB1 HBy
    have hps' : (0 : Int) < (ps.length : Int) := by have := HPS.out; omega
    have HX := Lib.hid hx
    have HY := Lib.hid hb
    obtain ⟨x0, x1⟩ := hx
    clear hb
    go_wp2_with fail
    generalize p * 7 % 65536 = y at *
    clear hc p0 p1
    obtain ⟨y0, y1⟩ := HY.out
    obtain ⟨l1, l2, hl1, hl2, hlc⟩ := less_cases HX.out HY.out
    have A1 := fun W => pAdd_any x y W
    have A2 := fun W => pAdd_any y x W
    have S1 := fun W => pSub_any (addW x y) y W
    rw [sub_add HX.out HY.out] at S1
    have I1 := fun W => pIsWord_any (addW x y) W
    have hsw : wordP (addW x y) := by rw [addW_eq HX.out HY.out]; exact wordP_mod _
    rw [isW_mk hsw.1 hsw.2] at I1
    rw [addW_comm y x] at A2
    have hall : [x, y, addW x y].all isW = true := by simp [isW_mk x0 x1, isW_mk y0 y1, isW_mk hsw.1 hsw.2]
    have M1 := fun W => pMul_any x y W
    have M2 := fun W => pMul_any y x W
    rw [mulW_comm y x] at M2
    have W1 := fun W => pWrap_any (x - y) W
    have S2 := fun W => pSub_any x y W
    rw [subW_eq HX.out HY.out] at S2
    have L1 := fun W => pLessW_any x y W
    have L2 := fun W => pLessW_any y x W
    rw [hl1] at L1
    rw [hl2] at L2
    have N1 := fun (W : World) => pAreWords_any (W.heap.size + 1) _ (some ⟨W.heap.size, 0, none⟩) [x, y, addW x y] 3 (by simp) (three_cells W (W.heap.size + 1) x y (addW x y) (by unfold i64R; omega) (by unfold i64R; omega) (by unfold i64R; have := hsw.1; have := hsw.2; omega) (by omega))
    rw [hall] at N1
    generalize addW x y = s at *
    generalize mulW x y = m at *
    generalize (x - y) % 65536 = d at *
    replace A1 := Lib.hid A1
    replace A2 := Lib.hid A2
    replace S1 := Lib.hid S1
    replace S2 := Lib.hid S2
    replace I1 := Lib.hid I1
    replace M1 := Lib.hid M1
    replace M2 := Lib.hid M2
    replace W1 := Lib.hid W1
    replace L1 := Lib.hid L1
    replace L2 := Lib.hid L2
    replace N1 := Lib.hid N1
    clear hl1 hl2 hall hsw
    refine (A1.out _).mono ?_
    rintro e w' ⟨rfl, rfl⟩
    rcases hlc with ⟨rfl, rfl, rfl⟩ | ⟨rfl, rfl, hne⟩ | ⟨rfl, rfl, hne⟩
    · have W0 := W1.out
      clear W1
      rw [Int.sub_self] at W0
      have W1 := Lib.hid W0
      clear W0
      go_wp2_with fail
      refine (L1.out _).mono ?_
      rintro e w' ⟨rfl, rfl⟩
      go_wp2_with fail
      refine (L2.out _).mono ?_
      rintro e w' ⟨rfl, rfl⟩
      go_wp2_with fail
      refine (I1.out _).mono ?_
      rintro e w' ⟨rfl, rfl⟩
      go_wp2_with fail
      refine (S1.out _).mono ?_
      rintro e w' ⟨rfl, rfl⟩
      go_wp2_with fail
      refine (A2.out _).mono ?_
      rintro e w' ⟨rfl, rfl⟩
      go_wp2_with fail
      refine (M1.out _).mono ?_
      rintro e w' ⟨rfl, rfl⟩
      go_wp2_with fail
      refine (M2.out _).mono ?_
      rintro e w' ⟨rfl, rfl⟩
      go_wp2_with fail
      refine (W1.out _).mono ?_
      rintro e w' ⟨rfl, rfl⟩
      go_wp2_with fail
      refine (S2.out _).mono ?_
      rintro e w' ⟨rfl, rfl⟩
      go_wp2_with fail
      refine (N1.out _).mono ?_
      rintro e w' ⟨rfl, rfl⟩
      go_wp2_with fail
      go_ret
      exact ⟨rfl, hB2.out.alloc s2 _⟩
    · have hq : (x == y) = false := by simpa using hne
      go_wp2_with fail
      refine (L1.out _).mono ?_
      rintro e w' ⟨rfl, rfl⟩
      go_wp2_with fail
      refine (L2.out _).mono ?_
      rintro e w' ⟨rfl, rfl⟩
      go_wp2_with fail
      refine (I1.out _).mono ?_
      rintro e w' ⟨rfl, rfl⟩
      go_wp2_with fail
      refine (S1.out _).mono ?_
      rintro e w' ⟨rfl, rfl⟩
      go_wp2_with fail
      refine (A2.out _).mono ?_
      rintro e w' ⟨rfl, rfl⟩
      go_wp2_with fail
      refine (M1.out _).mono ?_
      rintro e w' ⟨rfl, rfl⟩
      go_wp2_with fail
      refine (M2.out _).mono ?_
      rintro e w' ⟨rfl, rfl⟩
      go_wp2_with fail
      refine (W1.out _).mono ?_
      rintro e w' ⟨rfl, rfl⟩
      go_wp2_with fail
      refine (S2.out _).mono ?_
      rintro e w' ⟨rfl, rfl⟩
      go_wp2_with fail
      refine (N1.out _).mono ?_
      rintro e w' ⟨rfl, rfl⟩
      go_wp2_with fail
      go_ret
      exact ⟨rfl, hB2.out.alloc s2 _⟩
    · have hq : (x == y) = false := by simpa using hne
      go_wp2_with fail
      refine (L1.out _).mono ?_
      rintro e w' ⟨rfl, rfl⟩
      go_wp2_with fail
      refine (L2.out _).mono ?_
      rintro e w' ⟨rfl, rfl⟩
      go_wp2_with fail
      refine (I1.out _).mono ?_
      rintro e w' ⟨rfl, rfl⟩
      go_wp2_with fail
      refine (S1.out _).mono ?_
      rintro e w' ⟨rfl, rfl⟩
      go_wp2_with fail
      refine (A2.out _).mono ?_
      rintro e w' ⟨rfl, rfl⟩
      go_wp2_with fail
      refine (M1.out _).mono ?_
      rintro e w' ⟨rfl, rfl⟩
      go_wp2_with fail
      refine (M2.out _).mono ?_
      rintro e w' ⟨rfl, rfl⟩
      go_wp2_with fail
      refine (W1.out _).mono ?_
      rintro e w' ⟨rfl, rfl⟩
      go_wp2_with fail
      refine (S2.out _).mono ?_
      rintro e w' ⟨rfl, rfl⟩
      go_wp2_with fail
      refine (N1.out _).mono ?_
      rintro e w' ⟨rfl, rfl⟩
      go_wp2_with fail
      go_ret
      exact ⟨rfl, hB2.out.alloc s2 _⟩

end Go.Proofs.Ythanhmjohbjohaa
