/- Lanes that run alone: EndRegs, of both. -/
import Derived.Test.YtmiopbpahkgmbaaAlone
namespace Go.Proofs.Ytmiopbpahkgmbaa
open Go.RowKit Go

/-- A new row of numbers and a truth are returned. -/
def RegsSaid (xs : List Int) (ok : Bool) (w : World) (e : Ending) (w' : World) : Prop :=
  ∃ v : Value, e = .returned (.tuple #[v, .bool ok]) ∧ Own w.heap.size w' v xs ∧ Below w.heap.size w w'
theorem ret2v {v v' : Value} {a b : Bool} (h : v = v') (k : a = b) : Ending.returned (.tuple #[v, .bool a]) = .returned (.tuple #[v', .bool b]) := by rw [h, k]
def erOk (p : List I4) (f n : Int) : Bool := decide (1 ≤ n ∧ n ≤ 24) && endOk p f n.toNat
def erR (p : List I4) (f n : Int) : List Int := if erOk p f n = true then endR p f n.toNat else []
theorem er_rng (p : List I4) (f n : Int) : ∀ x ∈ erR p f n, i64R x := by
  unfold erR
  split
  · exact endR_rng _ _ _
  · intro x hx; cases hx
theorem er_len (p : List I4) (f n : Int) : (erR p f n).length ≤ 96 := by
  unfold erR
  split
  · rename_i h
    have hn : 1 ≤ n ∧ n ≤ 24 := by unfold erOk at h; simp only [Bool.and_eq_true, decide_eq_true_eq] at h; exact h.1
    have := endR_len p f n.toNat
    omega
  · exact Nat.zero_le _
theorem er_none {p : List I4} {f n : Int} (h : erOk p f n = false) : erR p f n = [] := by unfold erR; rw [h]; rfl
theorem er_at {p : List I4} {f : Int} {N : Nat} (hn : 1 ≤ (N : Int) ∧ (N : Int) ≤ 24) : erOk p f (N : Int) = endOk p f N ∧ erR p f (N : Int) = if endOk p f N = true then endR p f N else [] := by
  have e : erOk p f (N : Int) = endOk p f N := by unfold erOk; rw [decide_eq_true hn, Bool.true_and, Int.toNat_natCast]
  refine ⟨e, ?_⟩
  unfold erR
  rw [e, Int.toNat_natCast]
theorem alone_rng {p : List I4} {t : Int} (h : aloneOk p t = true) : 0 ≤ t ∧ t ≤ 23 := (aloneOk_iff.1 h).2.1
theorem end_rng {p : List I4} {f : Int} {k : Nat} (h : endOk p f k = true) (hk : 0 < k) : 0 ≤ f ∧ f ≤ 23 := by
  have := (List.all_eq_true.1 h) 0 (List.mem_range.2 hk)
  have := alone_rng this
  omega
theorem wrap_thread {p : List I4} {f : Int} {k : Nat} (hf : i64R f) (h : endOk p f k = true) (hk : k ≤ 24) : IntKind.i64.wrap (f + (k : Int)) = f + (k : Int) := by
  unfold i64R at hf
  cases k with
  | zero => exact IntWalk.i64_in _ (by omega)
  | succ k =>
    have := end_rng h (Nat.succ_pos _)
    exact IntWalk.i64_in _ (by omega)
theorem al_len4 {p : List I4} {t : Int} (h : aloneOk p t = true) : (alR p t).length = 4 := by
  unfold alR
  rw [if_pos h, run_len]
  rfl

set_option maxRecDepth 100000 in
set_option maxHeartbeats 4000000 in
theorem pEndRegs_any (B : Nat) (w : World) (a : Option Addr) (p : List I4) (cap : Nat) (hl : p.length ≤ 10000000) (h : Nums B w a (flat p)) (hB : B ≤ w.heap.size) (f n : Int) (hf : i64R f) :
    Calls Try.prog 44 #[.slice a p.length cap, .int .i64 f, .int .i64 n] w (RegsSaid (erR p f n) (erOk p f n) w) := by
  obtain ⟨i0, hi0, hz0, hz1, hz2⟩ := info_parts info_int
  have HRA := Lib.hid (fun W (hW : Below w.heap.size w W) t => pRunAlone_any B W a p cap hl (h.kept (hW.mono hB)) (Nat.le_trans hB hW.size) t)
  clear h
  by_cases hn : 1 ≤ n ∧ n ≤ 24
  · obtain ⟨N, rfl⟩ := Int.eq_ofNat_of_zero_le (show 0 ≤ n by omega)
    obtain ⟨e1, e2⟩ := er_at (p := p) (f := f) hn
    generalize erR p f (N : Int) = X at *
    generalize erOk p f (N : Int) = V at *
    have E1 := Lib.hid e1
    have E2 := Lib.hid e2
    clear e1 e2
    have hN : N ≤ 24 := by omega
    have hN1 : 1 ≤ N := by omega
    have hq1 : ¬ (N : Int) < 1 := by omega
    have hq2 : ¬ (N : Int) > 24 := by omega
    go_enter Try.func44, Try.ntmps44
    go_wp2_with fail
    go_loopw [8, 9, 10, 11, 20] (fun v _ _ _ i wr => ∃ k : Nat, k ≤ N ∧ i = .int .i64 k ∧ Hid (endOk p f k = true) ∧ Own w.heap.size wr v (endR p f k) ∧ Below w.heap.size w wr) (fun _ _ _ _ i _ => N - (intOf i).toNat)
    case atStart => exact ⟨0, Nat.zero_le _, rfl, (rfl : endOk p f 0 = true), made_empty _ _ rfl (Nat.le_refl _), below1 _ _⟩
    case round =>
      obtain ⟨k, hk, rfl, HOK, hown, hb⟩ := hrel
      have HO := Lib.hid hown
      have HB := Lib.hid hb
      have hsz := hb.size
      by_cases hlt : k < N
      · have hw64 := wrap_thread hf HOK.out (by omega)
        have HR := HRA.out wr hb (f + (k : Int))
        have hlen8 := endR_len p f k
        have hk64 : IntKind.i64.wrap ((k : Int) + 1) = (k : Int) + 1 := IntWalk.i64_in _ (by omega)
        have hkn : (k : Int) < (N : Int) := by omega
        cases hA : aloneOk p (f + (k : Int)) with
        | false =>
          have HX := Lib.hid (endOk_no hlt hA)
          obtain ⟨e1, e2, e3, e4⟩ := al_no hA
          rw [hA, e1, e2, e3] at HR
          replace HR := Lib.hid HR
          clear e1 e2 e3 e4 hA hown hb
          go_wp2_with fail
          refine HR.out.mono ?_
          rintro e w2 ⟨a2, c2, rfl, o2, b2⟩
          have HB2 := Lib.hid (HB.out.trans (b2.mono hsz))
          clear o2 b2
          go_wp2_with fail
          go_ret2
          exact ⟨.slice none 0 0, ret2v rfl (by rw [E1.out, HX.out]), by rw [E2.out, HX.out, if_neg (by decide)]; exact Own.nil _ _, HB2.out.alloc HB2.out.size _⟩
        | true =>
          have HX := Lib.hid (show endOk p f (k + 1) = true by rw [endOk_snoc, HOK.out, hA]; rfl)
          have h4 := al_len4 hA
          have HRG := Lib.hid (al_rng p (f + (k : Int)))
          have HSN := Lib.hid (endR_snoc p f k)
          rw [hA, (al_yes hA).1, (al_yes hA).2] at HR
          generalize alR p (f + (k : Int)) = zs at *
          generalize endR p f k = us at *
          rw [show StepSaid (f + (k : Int)) (p.length : Int) zs true wr = (fun e w' => ∃ (a : Option Addr) (c : Nat), e = .returned (.tuple #[.agg #[.int .i64 (f + (k : Int)), .int .i64 (p.length : Int), .slice a 4 c], .bool true]) ∧ Own wr.heap.size w' (.slice a 4 c) zs ∧ Below wr.heap.size wr w') by unfold StepSaid; rw [h4]] at HR
          replace HR := Lib.hid HR
          have H4 := Lib.hid h4
          clear hA hown hb h4
          go_wp2_with fail
          refine HR.out.mono ?_
          rintro e w2 ⟨a2, c2, rfl, o2, b2⟩
          have hwk2 : Below w.heap.size w w2 := HB.out.trans (b2.mono hsz)
          have HO2 := Lib.hid (HO.out.below b2)
          go_upto_region 8 with fail
          obtain ⟨w3, hw3⟩ : ∃ w3, w3 = w2.alloc (.cells #[.int .i64 (f + (k : Int)), .int .i64 (p.length : Int), .slice a2 4 c2] 27) := ⟨_, rfl⟩
          rw [← hw3]
          have HX3 := Lib.hid (show Box 27 w3 w2.heap.size #[.int .i64 (f + (k : Int)), .int .i64 (p.length : Int), .slice a2 4 c2] by rw [hw3]; exact Box.new _ _ _)
          have HO3 := Lib.hid (show Own w.heap.size w3 _ us by rw [hw3]; exact Own.alloc HO2.out _)
          have hb3 : Below w.heap.size w w3 := by rw [hw3]; exact hwk2.alloc hwk2.size _
          have HB3 := Lib.hid hb3
          have hs3 := hb3.size
          have HN3 := Lib.hid (Own.nums (show Own wr.heap.size w3 (.slice a2 4 c2) zs by rw [hw3]; exact Own.alloc o2 _) HRG.out (Nat.le_refl _))
          obtain ⟨g2, off2, rfl, _, _⟩ := HN3.out.2 0 (by have := H4.out; omega)
          have HS := Lib.hid (nums_cells HN3.out)
          obtain ⟨⟨l0, l1, l2⟩, _, ll⟩ := HX3.out.three
          clear hw3 o2 b2 hwk2 hb3
          go_wp2_with (at_builtin; refine wpList_append_own _ rfl (.tmp 33) (.tmp 35) 25 rfl w.heap.size 3 i0 (.int .i64 0) 1 8 Try.underlying25 hi0 hz0 hz1 hz2 rfl (by decide) _ _ _ rfl HO3.out ⟨g2, off2, none⟩ 4 c2 (zs.map (.int .i64)) rfl (by rw [List.length_map, H4.out]) HS.out (by intro u hu; obtain ⟨x, _, rfl⟩ := List.mem_map.1 hu; rfl) (by unfold maxLen; omega) (by omega) (by omega) ?_; intro v5 w5 hown5 hgrow5 _; have HO5 := Lib.hid (show Own w.heap.size w5 v5 (us ++ zs) by unfold Own; rw [List.map_append, List.length_append, H4.out]; exact hown5); have HB5 := Lib.hid (HB3.out.grown hgrow5 (by omega) (fun k e => (World.ownsRow.lt HO3.out k e).1)); clear hown5 hgrow5 l0 l1 l2 ll)
          go_roundw
          case rel => exact ⟨k + 1, hlt, by go_num, HX, by rw [HSN.out]; exact HO5.out, HB5.out⟩
          case measure => simp [intOf]; omega
      · obtain rfl : k = N := by omega
        clear hown hb
        go_wp2_with fail
        go_ret2
        exact ⟨_, ret2v rfl (by rw [E1.out, HOK.out]), by rw [E2.out, HOK.out, if_pos rfl]; exact HO.out, HB.out⟩
  · have he : erOk p f n = false := by unfold erOk; rw [decide_eq_false hn, Bool.false_and]
    rw [er_none he, he]
    clear he
    by_cases hn1 : n < 1
    · clear hn
      go_enter Try.func44, Try.ntmps44
      go_wp2_with fail
      go_ret2
      exact ⟨_, rfl, Own.nil _ _, Below.refl _ _⟩
    · have hn2 : n > 24 := by omega
      clear hn
      go_enter Try.func44, Try.ntmps44
      go_wp2_with fail
      go_ret2
      exact ⟨_, rfl, Own.nil _ _, Below.refl _ _⟩

set_option maxRecDepth 100000 in
set_option maxHeartbeats 4000000 in
theorem sEndRegs_any (B : Nat) (w : World) (a : Option Addr) (p : List I4) (cap : Nat) (hl : p.length ≤ 10000000) (h : Nums B w a (flat p)) (hB : B ≤ w.heap.size) (f n : Int) (hf : i64R f) :
    Calls Try.prog 43 #[.slice a p.length cap, .int .i64 f, .int .i64 n] w (RegsSaid (erR p f n) (erOk p f n) w) := by
  obtain ⟨i0, hi0, hz0, hz1, hz2⟩ := info_parts info_int
  have HRA := Lib.hid (fun W (hW : Below w.heap.size w W) t => sRunAlone_any B W a p cap hl (h.kept (hW.mono hB)) (Nat.le_trans hB hW.size) t)
  clear h
  have HI1 := fun W => sIn_any n 1 24 W
  have HI2 := fun W => sIn_any f 0 23 W
  have HME := Lib.hid (fun (W : World) (hW : w.heap.size ≤ W.heap.size) => (show Own w.heap.size (W.alloc (.cells #[] 3)) (.slice (some ⟨W.heap.size, 0, none⟩) 0 0) [] from made_empty W W.heap.size rfl hW))
  by_cases hn : 1 ≤ n ∧ n ≤ 24
  · obtain ⟨N, rfl⟩ := Int.eq_ofNat_of_zero_le (show 0 ≤ n by omega)
    rw [decide_eq_true hn] at HI1
    replace HI1 := Lib.hid HI1
    by_cases hff : 0 ≤ f ∧ f ≤ 23
    · rw [decide_eq_true hff] at HI2
      replace HI2 := Lib.hid HI2
      obtain ⟨e1, e2⟩ := er_at (p := p) (f := f) hn
      generalize erR p f (N : Int) = X at *
      generalize erOk p f (N : Int) = V at *
      have E1 := Lib.hid e1
      have E2 := Lib.hid e2
      clear e1 e2
      have hN : N ≤ 24 := by omega
      have hN1 : 1 ≤ N := by omega
      have hq1 : ¬ (N : Int) < 1 := by omega
      have hq2 : ¬ (N : Int) > 24 := by omega
      go_enter Try.func43, Try.ntmps43
      go_wp2_with fail
      refine (HI1.out _).mono ?_
      rintro e w' ⟨rfl, rfl⟩
      go_wp2_with fail
      refine (HI2.out _).mono ?_
      rintro e w' ⟨rfl, rfl⟩
      go_wp2_with fail
      go_loopw [8, 9, 10, 11] (fun v i _ _ wr => ∃ k : Nat, k ≤ N ∧ i = .int .i64 k ∧ Hid (endOk p f k = true) ∧ Own w.heap.size wr v (endR p f k) ∧ Below w.heap.size w wr) (fun _ i _ _ _ => N - (intOf i).toNat)
      case atStart => exact ⟨0, Nat.zero_le _, rfl, (rfl : endOk p f 0 = true), HME.out w (Nat.le_refl _), below1 _ _⟩
      case round =>
        obtain ⟨k, hk, rfl, HOK, hown, hb⟩ := hrel
        have HO := Lib.hid hown
        have HB := Lib.hid hb
        have hsz := hb.size
        by_cases hlt : k < N
        · have hw64 := wrap_thread hf HOK.out (by omega)
          have HR := HRA.out wr hb (f + (k : Int))
          have hlen8 := endR_len p f k
          have hk64 : IntKind.i64.wrap ((k : Int) + 1) = (k : Int) + 1 := IntWalk.i64_in _ (by omega)
          have hkn : (k : Int) < (N : Int) := by omega
          cases hA : aloneOk p (f + (k : Int)) with
          | false =>
            have HX := Lib.hid (endOk_no hlt hA)
            obtain ⟨e1, e2, e3, e4⟩ := al_no hA
            rw [hA, e1, e2, e3] at HR
            replace HR := Lib.hid HR
            clear e1 e2 e3 e4 hA hown hb
            go_wp2_with fail
            refine HR.out.mono ?_
            rintro e w2 ⟨a2, c2, rfl, o2, b2⟩
            have HB2 := Lib.hid (HB.out.trans (b2.mono hsz))
            clear o2 b2
            go_wp2_with fail
            go_ret2
            exact ⟨.slice (some ⟨w2.heap.size + 1, 0, none⟩) 0 0, ret2v rfl (by rw [E1.out, HX.out]), by rw [E2.out, HX.out, if_neg (by decide)]; exact made_empty _ _ (by simp) (by have := HB2.out.size; simp; omega), (HB2.out.alloc HB2.out.size _).alloc (by have := HB2.out.size; simp; omega) _⟩
          | true =>
            have HX := Lib.hid (show endOk p f (k + 1) = true by rw [endOk_snoc, HOK.out, hA]; rfl)
            have h4 := al_len4 hA
            have HRG := Lib.hid (al_rng p (f + (k : Int)))
            have HSN := Lib.hid (endR_snoc p f k)
            rw [hA, (al_yes hA).1, (al_yes hA).2] at HR
            generalize alR p (f + (k : Int)) = zs at *
            generalize endR p f k = us at *
            rw [show StepSaid (f + (k : Int)) (p.length : Int) zs true wr = (fun e w' => ∃ (a : Option Addr) (c : Nat), e = .returned (.tuple #[.agg #[.int .i64 (f + (k : Int)), .int .i64 (p.length : Int), .slice a 4 c], .bool true]) ∧ Own wr.heap.size w' (.slice a 4 c) zs ∧ Below wr.heap.size wr w') by unfold StepSaid; rw [h4]] at HR
            replace HR := Lib.hid HR
            have H4 := Lib.hid h4
            clear hA hown hb h4
            go_wp2_with fail
            refine HR.out.mono ?_
            rintro e w2 ⟨a2, c2, rfl, o2, b2⟩
            have hwk2 : Below w.heap.size w w2 := HB.out.trans (b2.mono hsz)
            have HO2 := Lib.hid (HO.out.below b2)
            go_upto_region 8 with fail
            obtain ⟨w3, hw3⟩ : ∃ w3, w3 = w2.alloc (.cells #[.int .i64 (f + (k : Int)), .int .i64 (p.length : Int), .slice a2 4 c2] 27) := ⟨_, rfl⟩
            rw [← hw3]
            have HX3 := Lib.hid (show Box 27 w3 w2.heap.size #[.int .i64 (f + (k : Int)), .int .i64 (p.length : Int), .slice a2 4 c2] by rw [hw3]; exact Box.new _ _ _)
            have HO3 := Lib.hid (show Own w.heap.size w3 _ us by rw [hw3]; exact Own.alloc HO2.out _)
            have hb3 : Below w.heap.size w w3 := by rw [hw3]; exact hwk2.alloc hwk2.size _
            have HB3 := Lib.hid hb3
            have hs3 := hb3.size
            have HN3 := Lib.hid (Own.nums (show Own wr.heap.size w3 (.slice a2 4 c2) zs by rw [hw3]; exact Own.alloc o2 _) HRG.out (Nat.le_refl _))
            obtain ⟨g2, off2, rfl, _, _⟩ := HN3.out.2 0 (by have := H4.out; omega)
            have HS := Lib.hid (nums_cells HN3.out)
            obtain ⟨⟨l0, l1, l2⟩, _, ll⟩ := HX3.out.three
            clear hw3 o2 b2 hwk2 hb3
            go_wp2_with (at_builtin; refine wpList_append_own _ rfl (.tmp 38) (.tmp 40) 25 rfl w.heap.size 3 i0 (.int .i64 0) 1 8 Try.underlying25 hi0 hz0 hz1 hz2 rfl (by decide) _ _ _ rfl HO3.out ⟨g2, off2, none⟩ 4 c2 (zs.map (.int .i64)) rfl (by rw [List.length_map, H4.out]) HS.out (by intro u hu; obtain ⟨x, _, rfl⟩ := List.mem_map.1 hu; rfl) (by unfold maxLen; omega) (by omega) (by omega) ?_; intro v5 w5 hown5 hgrow5 _; have HO5 := Lib.hid (show Own w.heap.size w5 v5 (us ++ zs) by unfold Own; rw [List.map_append, List.length_append, H4.out]; exact hown5); have HB5 := Lib.hid (HB3.out.grown hgrow5 (by omega) (fun k e => (World.ownsRow.lt HO3.out k e).1)); clear hown5 hgrow5 l0 l1 l2 ll)
            go_roundw
            case rel => exact ⟨k + 1, hlt, by go_num, HX, by rw [HSN.out]; exact HO5.out, HB5.out⟩
            case measure => simp [intOf]; omega
        · obtain rfl : k = N := by omega
          clear hown hb
          go_wp2_with fail
          go_ret2
          exact ⟨_, ret2v rfl (by rw [E1.out, HOK.out]), by rw [E2.out, HOK.out, if_pos rfl]; exact HO.out, HB.out⟩
    · rw [decide_eq_false hff] at HI2
      replace HI2 := Lib.hid HI2
      have he : erOk p f (N : Int) = false := by rw [(er_at hn).1]; cases h : endOk p f N with | false => rfl | true => exact absurd (end_rng h (by omega)) hff
      rw [er_none he, he]
      clear he
      go_enter Try.func43, Try.ntmps43
      go_wp2_with fail
      refine (HI1.out _).mono ?_
      rintro e w' ⟨rfl, rfl⟩
      go_wp2_with fail
      refine (HI2.out _).mono ?_
      rintro e w' ⟨rfl, rfl⟩
      go_wp2_with fail
      go_ret2
      exact ⟨_, rfl, HME.out w (Nat.le_refl _), below1 _ _⟩
  · rw [decide_eq_false hn] at HI1
    replace HI1 := Lib.hid HI1
    have he : erOk p f n = false := by unfold erOk; rw [decide_eq_false hn, Bool.false_and]
    rw [er_none he, he]
    clear he
    go_enter Try.func43, Try.ntmps43
    go_wp2_with fail
    refine (HI1.out _).mono ?_
    rintro e w' ⟨rfl, rfl⟩
    go_wp2_with fail
    go_ret2
    exact ⟨_, rfl, HME.out w (Nat.le_refl _), below1 _ _⟩

end Go.Proofs.Ytmiopbpahkgmbaa
