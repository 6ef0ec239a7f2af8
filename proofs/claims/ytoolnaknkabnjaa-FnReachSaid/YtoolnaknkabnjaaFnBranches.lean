/- FnBranches: a branch has two successors, and all other instructions have one. -/
import Derived.Test.YtoolnaknkabnjaaEndsP
import Derived.Test.YtoolnaknkabnjaaWild
import Derived.Test.YtoolnaknkabnjaaHas
import Derived.Test.YtoolnaknkabnjaaNumber
import Derived.Deep.RegionHeld3
namespace Go.Proofs.Ytoolnaknkabnjaa
open Go.RowKit Go

theorem nextL_pos {p : List I4} {k : Nat} (hk : k < p.length) : 0 < (nextL p k).length := by
  rw [nextL_at hk]
  unfold nextI
  repeat' split
  · simp
  · simp
  · refine Nat.pos_of_ne_zero fun h => ?_
    have h1 := List.eq_nil_of_length_eq_zero h
    have h2 := ((ascOf_asc [p[k].b, (k : Int) + 1]).2 p[k].b).2 (by simp)
    rw [h1] at h2
    cases h2
  · simp

theorem inL_nodes {f : Nat → Bool} {n k : Nat} (hk : k < n) : inL (nodesTo f n) (k : Int) = f k := by
  rw [Bool.eq_iff_iff]
  unfold inL
  rw [List.contains_iff_mem, nodesTo_mem]
  constructor
  · rintro ⟨i, _, hf, e⟩
    obtain rfl : k = i := by omega
    exact hf
  · intro hf
    exact ⟨k, hk, hf, rfl⟩

set_option maxRecDepth 100000 in
set_option maxHeartbeats 2000000 in
theorem fnBranches_walk (a : Option Addr) (len cap : Nat) (zs : List Int) (w : World) (hr : IsRow .u8 w a len cap zs) :
    Calls Try.prog 4 #[.slice a len cap] w fun e w' => e = .returned (.bool true) ∧ Below w.heap.size w w' := by
  have hl := hr.bytes.2
  have HBy := Lib.hid hr.bytes.1
  have HL := Lib.hid hl
  clear hr
  by_cases hbig : 1048576 < len
  · have HD := Lib.hid (show decide (1048576 < (len : Int)) = true by simp; omega)
    clear hl hbig
    go_enter Try.func4, Try.ntmps4
    go_wp2_with fail
    refine (big_any _ _ _ _).mono ?_
    rw [HD.out]
    rintro e w' ⟨rfl, rfl⟩
    go_wp2_with fail
    go_ret
    exact ⟨rfl, Below.refl _ _⟩
  · have HD := Lib.hid (show decide (1048576 < (len : Int)) = false by simp; omega)
    clear hl hbig
    go_enter Try.func4, Try.ntmps4
    go_wp2_with fail
    refine (big_any _ _ _ _).mono ?_
    rw [HD.out]
    rintro e w' ⟨rfl, rfl⟩
    go_wp2_with fail
    refine (drawWild_any _ _ _ _ HL.out HBy.out).mono ?_
    rintro e w1 ⟨a1, c1, p, rfl, hp, hp8, o1, b1⟩
    have s1 := b1.size
    have HN1 := Lib.hid (o1.nums (progOk_rng hp) (Nat.le_refl _))
    have HB1 := Lib.hid b1
    have HP := Lib.hid hp
    clear o1 b1
    go_wp2_with fail
    refine (pBranches_any _ _ a1 p c1 (by omega) HN1.out (Nat.le_refl _)).mono ?_
    rintro e w2 ⟨v2, rfl, o2, b2⟩
    have s2 := b2.size
    have e2 : brQ p = nodesTo (isBr p) p.length := by unfold brQ; rw [if_pos HP.out]
    rw [e2] at o2
    have hbl := nodesTo_le (isBr p) p.length
    have HIN := Lib.hid (fun (k : Nat) (hk : k < p.length) => inL_nodes (f := isBr p) hk)
    have HBR := Lib.hid (nodesTo_rng (isBr p) p.length (by omega))
    generalize nodesTo (isBr p) p.length = bs at *
    obtain ⟨a2, c2, rfl⟩ := o2.form
    have HN2 := Lib.hid (HN1.out.kept b2)
    have HO2 := Lib.hid (o2.nums HBR.out (Nat.le_refl _))
    have HB2 := Lib.hid (HB1.out.trans (b2.mono s1))
    clear e2 o2 b2
    go_wp2_with fail
    go_loopw [5] (fun i wr => ∃ k : Nat, k ≤ p.length ∧ i = .int .i64 k ∧ Below w2.heap.size w2 wr) (fun i _ => p.length - (intOf i).toNat)
    case atStart => exact ⟨0, Nat.zero_le _, rfl, Below.refl _ _⟩
    case round =>
      obtain ⟨k, hk, rfl, hb⟩ := hrel
      have sr := hb.size
      have HB := Lib.hid hb
      clear hb
      by_cases hlt : k < p.length
      · have h1 := pNextOf_any w1.heap.size wr a1 p c1 k (by omega) (HN2.out.kept (HB.out.mono s2)) (by omega)
        have e1 : nextQ p (k : Int) = nextL p k := by unfold nextQ; rw [if_pos (nodeOk_iff.2 ⟨HP.out, by omega, by omega⟩), Int.toNat_natCast]
        rw [e1] at h1
        have hpos := nextL_pos hlt
        have hle := nextL_le p k
        have hin := HIN.out k hlt
        have hbr : isBr p k = ((nextL p k).length == 2) := rfl
        rw [hbr] at hin
        generalize nextL p k = ys at *
        replace h1 := Lib.hid h1
        clear hbr e1
        go_wp2_with fail
        refine h1.out.mono ?_
        rintro e w3 ⟨v3, rfl, o3, b3⟩
        obtain ⟨a3, c3, rfl⟩ := o3.form
        have HB3 := Lib.hid (HB.out.trans (b3.mono sr))
        have h3 := has_any w2.heap.size w3 a2 bs c2 (k : Int) (by omega) (HO2.out.kept HB3.out)
        rw [hin] at h3
        clear o3 b3 hin
        by_cases h2 : ys.length = 2
        · have he : (ys.length == 2) = true := by rw [h2]; rfl
          rw [he] at h3
          replace h3 := Lib.hid h3
          have hl : (ys.length : Int) = 2 := by omega
          clear he h2 hpos hle
          go_wp2_with fail
          refine h3.out.mono ?_
          rintro e w' ⟨rfl, rfl⟩
          go_wp2_with fail
          go_roundw
          case rel => exact ⟨k + 1, hlt, by go_num, HB3.out⟩
          case measure => simp [intOf]; omega
        · replace h2 : ys.length = 1 := by omega
          have he : (ys.length == 2) = false := by rw [h2]; rfl
          rw [he] at h3
          replace h3 := Lib.hid h3
          have hl : (ys.length : Int) = 1 := by omega
          clear he h2 hpos hle
          go_wp2_with fail
          refine h3.out.mono ?_
          rintro e w' ⟨rfl, rfl⟩
          go_wp2_with fail
          go_roundw
          case rel => exact ⟨k + 1, hlt, by go_num, HB3.out⟩
          case measure => simp [intOf]; omega
      · obtain rfl : k = p.length := by omega
        go_wp2_with fail
        go_ret
        exact ⟨rfl, HB2.out.trans (HB.out.mono (by omega))⟩

end Go.Proofs.Ytoolnaknkabnjaa
