/- FnLaneSteps: a step leads to a successor in the flow graph and keeps a lane valid. -/
import Derived.Test.YtmiopbpahkgmbaaDrawLane
import Derived.Test.YtmiopbpahkgmbaaReachP
import Derived.Test.YtmiopbpahkgmbaaHas
import Derived.Test.YtmiopbpahkgmbaaNumber
import Derived.Deep.RegionHeld3
namespace Go.Proofs.Ytmiopbpahkgmbaa
open Go.RowKit Go

theorem nextR_mem {p : List I4} {k : Nat} (hk : k < p.length) (rs : List Int) : nextR p k p[k] rs ∈ nextL p k := by
  rw [nextL_at hk]
  unfold nextR nextI
  split
  · simp
  split
  · simp
  rename_i h1 h2
  by_cases h10 : p[k].o = 10
  · rw [if_pos h10]
    split
    · exact ((ascOf_asc _).2 _).2 (by simp)
    · exact ((ascOf_asc _).2 _).2 (by simp)
  · rw [if_neg h10, if_neg (fun h => h10 h.1)]
    simp
theorem bytes_kept {w w' : World} {a : Option Addr} {len : Nat} (h : Bytes w.heap.size w a len) (hb : Below w.heap.size w w') : Bytes w'.heap.size w' a len := fun j hj => by
  obtain ⟨b, off, x, e, hlt, hc, h0, h1⟩ := h j hj
  exact ⟨b, off, x, e, Nat.lt_of_lt_of_le hlt hb.size, by rw [hb.cell (p := ⟨b, off + j, none⟩) hlt]; exact hc, h0, h1⟩
theorem inL_mem {xs : List Int} {v : Int} (h : v ∈ xs) : inL xs v = true := List.contains_iff_mem.2 h
theorem words_rng {rs : List Int} (h : rs.all isW = true) : ∀ x ∈ rs, i64R x := fun x hx => isW_rng ((List.all_eq_true.1 h) x hx)

set_option maxRecDepth 100000 in
set_option maxHeartbeats 4000000 in
theorem fnLaneSteps_any (a : Option Addr) (len cap : Nat) (zs : List Int) (w : World) (hr : IsRow .u8 w a len cap zs) :
    Calls Try.prog 4 #[.slice a len cap] w fun e w' => e = .returned (.bool true) ∧ Below w.heap.size w w' := by
  have hl := hr.bytes.2
  have HBy := Lib.hid hr.bytes.1
  have HL := Lib.hid hl
  clear hr
  by_cases hbig : 1048576 < len
  · have HD := Lib.hid (show decide (1048576 < (len : Int)) = true by simp; omega)
    clear hl hbig
    go_enter Try.func4, Try.ntmps4
    go_wp2_with fail
    refine (big_any _ _ _ _).mono ?_
    rw [HD.out]
    rintro e w' ⟨rfl, rfl⟩
    go_wp2_with fail
    go_ret
    exact ⟨rfl, Below.refl _ _⟩
  · have HD := Lib.hid (show decide (1048576 < (len : Int)) = false by simp; omega)
    clear hl hbig
    go_enter Try.func4, Try.ntmps4
    go_wp2_with fail
    refine (big_any _ _ _ _).mono ?_
    rw [HD.out]
    rintro e w' ⟨rfl, rfl⟩
    go_wp2_with fail
    refine (drawLane_any _ _ _ _ HL.out HBy.out).mono ?_
    rintro e w1 ⟨a1, c1, p, t, pc, ra, rc, rs, rfl, ⟨hok, hr4, hp8, hloc⟩, o1, o2, b1⟩
    obtain ⟨hp, ht, hpc, _, hrw⟩ := laneOk_iff.1 hok
    have HN1 := Lib.hid (OwnP.nums o1 (progOk_rng hp) (Nat.le_refl _))
    have HR1 := Lib.hid (Own.nums o2 (words_rng hrw) (Nat.le_refl _))
    have HB1 := Lib.hid b1
    have s1 : w.heap.size ≤ w1.heap.size := b1.size
    clear o1 o2 b1
    go_upto_region 4 with fail
    obtain ⟨w2, hw2⟩ : ∃ w2, w2 = w1.alloc (.cells #[.int .i64 t, .int .i64 pc, .slice ra 4 rc] 27) := ⟨_, rfl⟩
    rw [← hw2]
    have hb2 : Below w1.heap.size w1 w2 := by rw [hw2]; exact below1 _ _
    have X4 := Lib.hid (show Box 27 w2 w1.heap.size #[.int .i64 t, .int .i64 pc, .slice ra 4 rc] by rw [hw2]; exact Box.new _ _ _)
    clear hw2
    have s2 : w1.heap.size < w2.heap.size := X4.out.lt
    have HB2 := Lib.hid (HB1.out.trans (hb2.mono s1))
    have HN2 := Lib.hid (HN1.out.kept hb2)
    have HR2 := Lib.hid (HR1.out.kept hb2)
    clear hb2
    have HLS := pLocalStep_any _ w2 a1 p c1 (by omega) HN2.out (by omega) t pc _ ra rs rc (by omega) HR2.out (by omega)
    have HLE := fun W (hN : Nums w1.heap.size W a1 (flat p)) hs (hR : Nums w1.heap.size W ra rs) => pLaneEnded_any _ W a1 p c1 (by omega) hN hs t pc _ ra rs rc (by omega) hR hs
    rw [hr4] at HLS HLE
    by_cases he : pc = (p.length : Int)
    · have hcs : canStep p t pc rs = false := by unfold canStep; rw [decide_eq_true he]; cases laneOk p t pc rs <;> rfl
      obtain ⟨e1, e2⟩ := step_no hcs
      rw [hcs, e1, e2] at HLS
      have hen : endedQ p t pc rs = true := by unfold endedQ; rw [hok, decide_eq_true he]; rfl
      rw [hen] at HLE
      replace HLS := Lib.hid HLS
      replace HLE := Lib.hid HLE
      clear hcs e1 e2 hen he hpc
      obtain ⟨⟨l0, l1, l2⟩, lf, ll⟩ := X4.out.three
      clear lf
      go_wp2_with fail
      refine HLS.out.mono ?_
      rintro e w3 ⟨a3, c3, rfl, o3, b3⟩
      have HB3 := Lib.hid (HB2.out.trans (b3.mono (by omega)))
      have X3 := Lib.hid (X4.out.below b3)
      have s3 : w2.heap.size ≤ w3.heap.size := b3.size
      have HN3 := Lib.hid (HN2.out.kept (b3.mono (by omega)))
      have HR3 := Lib.hid (HR2.out.kept (b3.mono (by omega)))
      clear o3 b3 l0 l1 l2 ll
      go_upto_region 5 with fail
      obtain ⟨w4, hw4⟩ : ∃ w4, w4 = w3.alloc (.cells #[.int .i64 t, .int .i64 pc, .slice a3 4 c3] 27) := ⟨_, rfl⟩
      rw [← hw4]
      have hb4 : Below w3.heap.size w3 w4 := by rw [hw4]; exact below1 _ _
      have Y4 := Lib.hid (show Box 27 w4 w3.heap.size #[.int .i64 t, .int .i64 pc, .slice a3 4 c3] by rw [hw4]; exact Box.new _ _ _)
      clear hw4
      have s4 : w3.heap.size < w4.heap.size := Y4.out.lt
      have X5 := Lib.hid (X3.out.below hb4)
      have HB4 := Lib.hid (HB3.out.trans (hb4.mono (by omega)))
      have HC := Lib.hid (HLE.out w4 (HN3.out.kept (hb4.mono (by omega))) (by omega) (HR3.out.kept (hb4.mono (by omega))))
      clear hb4
      obtain ⟨⟨l0, l1, l2⟩, lf, ll⟩ := X5.out.three
      clear lf
      go_wp2_with fail
      refine HC.out.mono ?_
      rintro e w5 ⟨rfl, b5⟩
      have HB5 := Lib.hid (HB4.out.trans (b5.mono (by omega)))
      have k1 := (X5.out.below b5).cell 1
      have k2 := (Y4.out.below b5).cell 1
      have k3 := (X5.out.below b5).lt
      have k4 := (Y4.out.below b5).lt
      simp at k1 k2
      clear b5 l0 l1 l2 ll
      go_wp2_with fail
      go_ret
      exact ⟨rfl, HB5.out⟩
    · obtain ⟨k, rfl⟩ := Int.eq_ofNat_of_zero_le hpc.1
      have hk : k < p.length := by omega
      have hlk : locI p[k] = true := (List.all_eq_true.1 hloc) _ (List.getElem_mem hk)
      obtain ⟨hcs, e1, e2⟩ := step_yes hk hok hlk
      rw [hcs, e1, e2] at HLS
      have hen : endedQ p t k rs = false := by unfold endedQ; rw [decide_eq_false he]; cases laneOk p t k rs <;> rfl
      rw [hen] at HLE
      replace HLE := Lib.hid HLE
      have hmem := nextR_mem hk rs
      have hm0 := nextL_rng hp k _ hmem
      have hyl : (applyR p[k] t rs).length = 4 := by rw [applyR_len]; exact hr4
      have hyw := applyR_words (x := p[k]) (t := t) (progOk_at hp hk) hrw ht
      have hok2 : laneOk p t (nextR p k p[k] rs) (applyR p[k] t rs) = true := laneOk_iff.2 ⟨hp, ht, ⟨hm0.1, by omega⟩, hyl, hyw⟩
      have hnq : nextQ p (k : Int) = nextL p k := by unfold nextQ; rw [if_pos (nodeOk_iff.2 ⟨hp, by omega, by omega⟩), Int.toNat_natCast]
      have hml : inL (nextL p k) (nextR p k p[k] rs) = true := inL_mem hmem
      have hle := nextL_le p k
      have hlr := nextL_rng hp k
      generalize applyR p[k] t rs = ys at *
      generalize nextR p k p[k] rs = m at *
      rw [show (StepSaid t m ys true w2) = (fun e w' => ∃ (a : Option Addr) (c : Nat), e = .returned (.tuple #[.agg #[.int .i64 t, .int .i64 m, .slice a 4 c], .bool true]) ∧ Own w2.heap.size w' (.slice a 4 c) ys ∧ Below w2.heap.size w2 w') by unfold StepSaid; rw [hyl]] at HLS
      replace HLS := Lib.hid HLS
      have HYW := Lib.hid (words_rng hyw)
      have HLO := fun W (hN : Nums w1.heap.size W a1 (flat p)) hs B2 a3 c3 (hR : Nums B2 W a3 ys) hs2 => pLaneOk_any _ W a1 p c1 (by omega) hN hs t m B2 a3 ys c3 (by omega) hR hs2
      rw [hok2, hyl] at HLO
      replace HLO := Lib.hid HLO
      have HNX := fun W (hN : Nums w1.heap.size W a1 (flat p)) hs => pNextOf_any _ W a1 p c1 k (by omega) hN hs
      rw [hnq] at HNX
      replace HNX := Lib.hid HNX
      have HHS := fun W B3 a3 c3 (hN : Nums B3 W a3 (nextL p k)) => has_any B3 W a3 (nextL p k) c3 m (by omega) hN
      rw [hml] at HHS
      generalize nextL p k = ns at *
      replace HHS := Lib.hid HHS
      have HNR := Lib.hid (rng_i64 (n := p.length) (xs := ns) (by omega) hlr)
      clear hcs e1 e2 hen hmem hm0 hok2 hnq hml hle hlr hok hloc hlk hp ht hpc hyw hrw
      obtain ⟨⟨l0, l1, l2⟩, lf, ll⟩ := X4.out.three
      clear lf
      go_wp2_with fail
      refine HLS.out.mono ?_
      rintro e w3 ⟨a3, c3, rfl, o3, b3⟩
      have HB3 := Lib.hid (HB2.out.trans (b3.mono (by omega)))
      have X3 := Lib.hid (X4.out.below b3)
      have s3 : w2.heap.size ≤ w3.heap.size := b3.size
      have HN3 := Lib.hid (HN2.out.kept (b3.mono (by omega)))
      have HR3 := Lib.hid (HR2.out.kept (b3.mono (by omega)))
      have HY3 := Lib.hid (Own.nums o3 HYW.out (Nat.le_refl _))
      clear o3 b3 l0 l1 l2 ll
      go_upto_region 5 with fail
      obtain ⟨w4, hw4⟩ : ∃ w4, w4 = w3.alloc (.cells #[.int .i64 t, .int .i64 m, .slice a3 4 c3] 27) := ⟨_, rfl⟩
      rw [← hw4]
      have hb4 : Below w3.heap.size w3 w4 := by rw [hw4]; exact below1 _ _
      have Y4 := Lib.hid (show Box 27 w4 w3.heap.size #[.int .i64 t, .int .i64 m, .slice a3 4 c3] by rw [hw4]; exact Box.new _ _ _)
      clear hw4
      have s4 : w3.heap.size < w4.heap.size := Y4.out.lt
      have X5 := Lib.hid (X3.out.below hb4)
      have HB4 := Lib.hid (HB3.out.trans (hb4.mono (by omega)))
      have HN4 := Lib.hid (HN3.out.kept (hb4.mono (by omega)))
      have HY4 := Lib.hid (HY3.out.kept hb4)
      have HC := Lib.hid (HLE.out w4 HN4.out (by omega) (HR3.out.kept (hb4.mono (by omega))))
      clear hb4
      obtain ⟨⟨l0, l1, l2⟩, lf, ll⟩ := X5.out.three
      clear lf
      go_wp2_with fail
      refine HC.out.mono ?_
      rintro e w5 ⟨rfl, b5⟩
      have s5 : w4.heap.size ≤ w5.heap.size := b5.size
      have HB5 := Lib.hid (HB4.out.trans (b5.mono (by omega)))
      have HN5 := Lib.hid (HN4.out.kept (b5.mono (by omega)))
      have HY5 := Lib.hid (HY4.out.kept (b5.mono (by omega)))
      have X6 := Lib.hid (X5.out.below b5)
      have Y6 := Lib.hid (Y4.out.below b5)
      clear b5 l0 l1 l2 ll
      obtain ⟨⟨l0, l1, l2⟩, lf, ll⟩ := X6.out.three
      obtain ⟨⟨m0, m1, m2⟩, mf, ml⟩ := Y6.out.three
      clear lf mf
      have HLO5 := Lib.hid (fun W (hW : Kept w5 W) => HLO.out W (HN5.out.kept (Below.mono hW (by omega))) (by have := hW.size; omega) _ a3 c3 (HY5.out.kept (Below.mono hW (by omega))) (by have := hW.size; omega))
      have HNX5 := Lib.hid (fun W (hW : Kept w5 W) => HNX.out W (HN5.out.kept (Below.mono hW (by omega))) (by have := hW.size; omega))
      have hk1 : Kept w5 w5 := Below.refl _ _
      have hz := hk1.size
      clear HLS HLE HLO HNX
      go_upto_region 7 with fail
      go_region_held3 (fun w' => (w'.cell? ⟨w1.heap.size, 0, none⟩ = some (.int .i64 t) ∧ w'.cell? ⟨w1.heap.size, 1, none⟩ = some (.int .i64 (k : Int)) ∧ w'.cell? ⟨w1.heap.size, 2, none⟩ = some (.slice ra 4 rc)) ∧ w'.cell? ⟨w3.heap.size, 0, none⟩ = some (.int .i64 t) ∧ w'.cell? ⟨w3.heap.size, 1, none⟩ = some (.int .i64 m) ∧ w'.cell? ⟨w3.heap.size, 2, none⟩ = some (.slice a3 4 c3)) (first | go_keep | ((repeat' apply And.intro) <;> (first | (rw [hb1.cell (by simp; omega)]; simp [*]) | go_keep))) ((first
        | (go_at_call 22; refine (HLO5.out _ (by first | with_reducible exact hk1 | with_reducible exact Kept.drew hk1)).mono ?_; rintro e u1 ⟨rfl, hb1⟩; replace hk1 : Kept w5 u1 := (by first | with_reducible exact Kept.call hk1 hb1 | with_reducible exact Kept.call (Kept.drew hk1) hb1); have hz := hk1.size)
        | (go_at_call 23; refine (HNX5.out _ (by first | with_reducible exact hk1 | with_reducible exact Kept.drew hk1)).mono ?_; rintro e u2 ⟨v, rfl, o2, hb1⟩; obtain ⟨a2, c2, rfl⟩ := o2.form; have HNS := Lib.hid (Own.nums o2 HNR.out (Nat.le_refl _)); clear o2; replace hk1 : Kept w5 u2 := (by first | with_reducible exact Kept.call hk1 hb1 | with_reducible exact Kept.call (Kept.drew hk1) hb1); have hz := hk1.size)
        | (go_at_call 18; refine (HHS.out _ _ _ _ HNS.out).mono ?_; rintro e u3 ⟨rfl, rfl⟩)))
      have HB6 := Lib.hid (HB5.out.trans (Below.mono hk1 (by omega)))
      go_wp2_with fail
      go_ret
      exact ⟨rfl, HB6.out⟩

end Go.Proofs.Ytmiopbpahkgmbaa
