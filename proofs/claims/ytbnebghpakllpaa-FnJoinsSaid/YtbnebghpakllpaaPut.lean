/- The model's insertion of a number into an ascending list (l04Put): plain words, and its contract. -/
import Derived.Test.YtbnebghpakllpaaInts
namespace Go.Proofs.Ytbnebghpakllpaa
open Go.RowKit Go

/-- From place k down: how many numbers stand before the first of those at the end that are greater than n. -/
def cutI (n : Int) (xs : List Int) : Nat → Nat
  | 0 => 0
  | k + 1 => if n < xs.getD k 0 then cutI n xs k else k + 1
theorem cutI_le (n : Int) (xs : List Int) (k : Nat) : cutI n xs k ≤ k := by
  induction k with
  | zero => exact Nat.le_refl _
  | succ k ih => unfold cutI; split <;> omega
/-- The list with n in it. -/
def putI (xs : List Int) (n : Int) : List Int :=
  if 0 < cutI n xs xs.length ∧ xs.getD (cutI n xs xs.length - 1) 0 = n then xs else xs.take (cutI n xs xs.length) ++ [n] ++ xs.drop (cutI n xs xs.length)

theorem getD_at {xs : List Int} {k : Nat} (h : k < xs.length) : xs.getD k 0 = xs[k] := by
  rw [List.getD_eq_getElem?_getD, List.getElem?_eq_getElem h]; rfl

/-- What l04Put leaves. -/
def PutSaid (ys : List Int) (base : Nat) (w : World) (e : Ending) (w' : World) : Prop :=
  ∃ (g cap : Nat), e = .returned (.slice (some ⟨g, 0, none⟩) ys.length cap) ∧ Own base w' (.slice (some ⟨g, 0, none⟩) ys.length cap) ys ∧ Below w.heap.size w w'

theorem add_off (g i j : Nat) : (⟨g, i, none⟩ : Addr).add j = ⟨g, i + j, none⟩ := by unfold Addr.add; split <;> simp_all

/-- What a part of an owned row holds, cell by cell. -/
theorem Own.part {B : Nat} {w : World} {g n cap : Nat} {xs : List Int} (h : Own B w (.slice (some ⟨g, 0, none⟩) n cap) xs) (i m : Nat) (hm : i + m ≤ xs.length) :
    ∀ j u, (((xs.drop i).take m).map (Value.int .i64))[j]? = some u → w.cell? ((⟨g, i, none⟩ : Addr).add j) = some u := by
  intro j u hu
  rw [List.getElem?_map] at hu
  have hj : j < m := by
    rcases Nat.lt_or_ge j m with h | h
    · exact h
    · rw [List.getElem?_eq_none (by rw [List.length_take]; omega)] at hu; simp at hu
  obtain ⟨g', hg', _, _, hc⟩ := h.cell (i + j) (by omega)
  obtain rfl : g = g' := by injection hg' with e; injection e
  rw [List.getElem?_take_of_lt hj, List.getElem?_drop, List.getElem?_eq_getElem (by omega)] at hu
  rw [add_off, hc]
  simpa using hu

theorem Own.grown {B : Nat} {w w' : World} {v : Value} {xs : List Int} {row : Option Nat} (h : Own B w v xs) (hg : w.grownBy w' row) (hne : ∀ k, row = some k → w.heap.size ≤ k ∨ ∀ c, v.ownBlock = some c → c ≠ k) : Own B w' v xs :=
  World.ownsRow.kept h hg (by
    cases hv : v.ownBlock with
    | none => exact .inl rfl
    | some c =>
      refine .inr fun e => ?_
      have hlt := (World.ownsRow.lt h c hv).2
      rcases hne c e.symm with h1 | h1
      · omega
      · exact h1 c hv rfl)

theorem Own.room {B : Nat} {w : World} {g n cap : Nat} {xs : List Int} (h : Own B w (.slice (some ⟨g, 0, none⟩) n cap) xs) : xs.length ≤ cap ∧ cap ≤ maxLen := by
  rcases h.2 with ⟨h1, _⟩ | ⟨g', c, cur, h1, _, _, h2, h3, _⟩
  · cases h1
  · simp only [Value.slice.injEq] at h1
    obtain ⟨_, rfl, rfl⟩ := h1
    exact ⟨h2, h3⟩

/-- Behind the last append: the row, whole. -/
theorem put_last {base B N : Nat} {w3 : World} {v3 : Value} {ys : List Int} {us : List Value} (hb : base ≤ B) (h : w3.ownsRow B 3 1 v3 N us) (hN : N = ys.length) (hus : us = ys.map (.int .i64)) (h0 : 0 < ys.length) :
    ∃ g cap, v3 = .slice (some ⟨g, 0, none⟩) ys.length cap ∧ Own base w3 (.slice (some ⟨g, 0, none⟩) ys.length cap) ys := by
  subst hN hus
  rcases h.2 with ⟨_, h2⟩ | ⟨g, cap, cur, rfl, h3, rest⟩
  · omega
  · exact ⟨g, cap, rfl, h.1, .inr ⟨g, cap, cur, rfl, by omega, rest⟩⟩

theorem put_ret {base g cap N : Nat} {w w3 : World} {ys zs : List Int} (hy : zs = ys) (hN : N = ys.length) (h : Own base w3 (.slice (some ⟨g, 0, none⟩) ys.length cap) ys) (hb : Below w.heap.size w w3) :
    PutSaid zs base w (.returned (.slice (some ⟨g, 0, none⟩) N cap)) w3 := by
  subst hy hN
  exact ⟨g, cap, rfl, h, hb⟩

/-- What putI is, where the list is cut at k. -/
theorem put_new {n : Int} {xs : List Int} {k : Nat} (hc : cutI n xs k = cutI n xs xs.length) (hk : cutI n xs k = k) (hne : k = 0 ∨ xs.getD (k - 1) 0 ≠ n) : putI xs n = xs.take k ++ [n] ++ xs.drop k := by
  unfold putI
  rw [← hc, hk, if_neg (by rintro ⟨h1, h2⟩; rcases hne with h | h; omega; exact h h2)]
theorem put_old {n : Int} {xs : List Int} {k : Nat} (hc : cutI n xs k = cutI n xs xs.length) (hk : cutI n xs k = k) (h0 : 0 < k) (he : xs.getD (k - 1) 0 = n) : putI xs n = xs := by
  unfold putI
  rw [← hc, hk, if_pos ⟨h0, he⟩]

set_option maxRecDepth 100000 in
set_option maxHeartbeats 2000000 in
theorem sPut_any (base g cap : Nat) (xs : List Int) (n : Int) (w : World) (hl : xs.length ≤ 1000000) (h : Own base w (.slice (some ⟨g, 0, none⟩) xs.length cap) xs) :
    Calls Try.prog 83 #[.slice (some ⟨g, 0, none⟩) xs.length cap, .int .i64 n] w (PutSaid (putI xs n) base w) := by
  obtain ⟨i0, hi0, hz0, hz1, hz2⟩ := info_parts info_int
  have HH := Lib.hid h
  have hgl : g < w.heap.size := (World.ownsRow.lt h g rfl).2
  have hbg : base ≤ w.heap.size := by have := (World.ownsRow.lt h g rfl).1; omega
  obtain ⟨hlc, hcm⟩ := h.room
  unfold maxLen at hcm
  clear h
  go_enter Try.func83, Try.ntmps83
  go_wp2_with fail
  go_loop [5] (fun i => ∃ k : Nat, k ≤ xs.length ∧ i = .int .i64 k ∧ cutI n xs k = cutI n xs xs.length) (fun i => (intOf i).toNat)
  case atStart => exact ⟨xs.length, Nat.le_refl _, rfl, rfl⟩
  case round =>
    obtain ⟨k, hk, rfl, hc⟩ := hrel
    have O1 := Lib.hid (HH.out.alloc (.cells #[] 3))
    cases k with
    | zero =>
      have HC := Lib.hid (put_new hc rfl (.inl rfl))
      clear hc
      by_cases hcap : cap = 0
      · subst hcap
        have hdrop := Lib.hid (show xs = [] from List.length_eq_zero_iff.1 (by omega))
        go_wp2_with (first
          | (at_builtin; ((refine wpList_append_own _ rfl (.tmp 34) (.tmp 37) 26 rfl w.heap.size 3 i0 (.int .i64 0) 1 8 Try.underlying26 hi0 hz0 hz1 hz2 rfl (by decide) _ 0 [] rfl (World.ownsRow_made w #[] 0 (Nat.le_refl _) (by unfold maxLen; omega) rfl) ⟨g, 0, none⟩ 0 0 (((xs.drop 0).take 0).map (.int .i64)) rfl (by simp <;> omega) (O1.out.part 0 0 (by omega)) (by intro u hu; obtain ⟨x, _, rfl⟩ := List.mem_map.1 hu; rfl) (by unfold maxLen; omega) (by omega) (by simp) ?_)); intro v1 w1 own1 grow1 _; have B1 := Lib.hid (((Below.refl _ w).alloc (Nat.le_refl _) _).grown grow1 (by simp) (by intro k e; cases e; exact Nat.le_refl _)); have O2 := Lib.hid (HH.out.below B1.out); have Own1 := Lib.hid own1; have s1 := B1.out.size; clear own1 grow1)
          | (at_builtin; ((refine wpList_append_own _ rfl (.tmp 39) (.tmp 41) 26 rfl w.heap.size 3 i0 (.int .i64 0) 1 8 Try.underlying26 hi0 hz0 hz1 hz2 rfl (by decide) _ _ _ rfl (World.ownsRow.alloc Own1.out _) ⟨w1.heap.size, 0, none⟩ 1 1 [.int .i64 n] rfl rfl (cell_one_new _ _ _) (by simp [Value.oneCell']) (by unfold maxLen; omega) (by omega) (by simp; omega) ?_)); intro v2 w2 own2 grow2 _; have B2 := Lib.hid ((B1.out.alloc (by omega) _).grown grow2 (by simp; omega) (fun k e => (World.ownsRow.lt Own1.out k e).1)); have O3 := Lib.hid (HH.out.below B2.out); have Own2 := Lib.hid own2; have s2 := B2.out.size; clear own2 grow2)
          | (at_builtin; ((refine wpList_append_own _ rfl (.tmp 43) (.tmp 46) 26 rfl w.heap.size 3 i0 (.int .i64 0) 1 8 Try.underlying26 hi0 hz0 hz1 hz2 rfl (by decide) _ _ _ rfl Own2.out ⟨g, 0, none⟩ 0 0 [] rfl rfl (by intro j u hu; simp at hu) (by intro u hu; simp at hu) (by unfold maxLen; omega) (by omega) (by omega) ?_)); intro v3 w3 own3 grow3 _; have B3 := Lib.hid (B2.out.grown grow3 (by omega) (fun k e => (World.ownsRow.lt Own2.out k e).1)); obtain ⟨g3, c3, rfl, own4⟩ := put_last (base := base) (ys := xs.take (0) ++ [n] ++ xs.drop (0)) hbg own3 (by simp [hdrop.out] <;> omega) (by simp [hdrop.out]) (by simp); have Own3 := Lib.hid own4; clear own3 own4 grow3))
        go_ret
        exact put_ret HC.out (by simp [hdrop.out] <;> omega) Own3.out B3.out
      · 
        go_wp2_with (first
          | (at_builtin; ((refine wpList_append_own _ rfl (.tmp 34) (.tmp 37) 26 rfl w.heap.size 3 i0 (.int .i64 0) 1 8 Try.underlying26 hi0 hz0 hz1 hz2 rfl (by decide) _ 0 [] rfl (World.ownsRow_made w #[] 0 (Nat.le_refl _) (by unfold maxLen; omega) rfl) ⟨g, 0, none⟩ 0 cap (((xs.drop 0).take 0).map (.int .i64)) rfl (by simp <;> omega) (O1.out.part 0 0 (by omega)) (by intro u hu; obtain ⟨x, _, rfl⟩ := List.mem_map.1 hu; rfl) (by unfold maxLen; omega) (by omega) (by simp) ?_)); intro v1 w1 own1 grow1 _; have B1 := Lib.hid (((Below.refl _ w).alloc (Nat.le_refl _) _).grown grow1 (by simp) (by intro k e; cases e; exact Nat.le_refl _)); have O2 := Lib.hid (HH.out.below B1.out); have Own1 := Lib.hid own1; have s1 := B1.out.size; clear own1 grow1)
          | (at_builtin; ((refine wpList_append_own _ rfl (.tmp 39) (.tmp 41) 26 rfl w.heap.size 3 i0 (.int .i64 0) 1 8 Try.underlying26 hi0 hz0 hz1 hz2 rfl (by decide) _ _ _ rfl (World.ownsRow.alloc Own1.out _) ⟨w1.heap.size, 0, none⟩ 1 1 [.int .i64 n] rfl rfl (cell_one_new _ _ _) (by simp [Value.oneCell']) (by unfold maxLen; omega) (by omega) (by simp; omega) ?_)); intro v2 w2 own2 grow2 _; have B2 := Lib.hid ((B1.out.alloc (by omega) _).grown grow2 (by simp; omega) (fun k e => (World.ownsRow.lt Own1.out k e).1)); have O3 := Lib.hid (HH.out.below B2.out); have Own2 := Lib.hid own2; have s2 := B2.out.size; clear own2 grow2)
          | (at_builtin; ((refine wpList_append_own _ rfl (.tmp 43) (.tmp 46) 26 rfl w.heap.size 3 i0 (.int .i64 0) 1 8 Try.underlying26 hi0 hz0 hz1 hz2 rfl (by decide) _ _ _ rfl Own2.out ⟨g, 0, none⟩ (xs.length - 0) (cap - 0) (((xs.drop 0).take (xs.length - 0)).map (.int .i64)) rfl (by simp <;> omega) (O3.out.part 0 (xs.length - 0) (by omega)) (by intro u hu; obtain ⟨x, _, rfl⟩ := List.mem_map.1 hu; rfl) (by unfold maxLen; omega) (by omega) (by omega) ?_)); intro v3 w3 own3 grow3 _; have B3 := Lib.hid (B2.out.grown grow3 (by omega) (fun k e => (World.ownsRow.lt Own2.out k e).1)); obtain ⟨g3, c3, rfl, own4⟩ := put_last (base := base) (ys := xs.take (0) ++ [n] ++ xs.drop (0)) hbg own3 (by simp <;> omega) (by simp [List.take_of_length_le]) (by simp <;> omega); have Own3 := Lib.hid own4; clear own3 own4 grow3))
        go_ret
        exact put_ret HC.out (by simp <;> omega) Own3.out B3.out
    | succ j =>
      have hj : j < xs.length := by omega
      obtain ⟨g', hg', _, _, hcell⟩ := HH.out.cell j hj
      obtain rfl : g = g' := by injection hg' with e; injection e
      clear hg'
      have hgt := getD_at hj
      by_cases hlt : n < xs[j]
      · have HC := Lib.hid (show cutI n xs j = cutI n xs xs.length by rw [← hc, cutI, hgt, if_pos hlt])
        clear hc hgt
        rw [show ((j + 1 : Nat) : Int) = (j : Int) + 1 from rfl]
        generalize xs[j] = x at *
        go_wp2_with fail
        go_round
        case rel => exact ⟨j, by omega, rfl, HC.out⟩
        case measure => simp [intOf]
      · have hcut : cutI n xs (j + 1) = j + 1 := by rw [cutI, hgt, if_neg hlt]
        by_cases heq : xs[j] = n
        · have HC := Lib.hid (put_old hc hcut (by omega) (by rw [show j + 1 - 1 = j from rfl, hgt, heq]))
          clear hc hgt hcut hlt
          subst heq
          rw [show ((j + 1 : Nat) : Int) = (j : Int) + 1 from rfl]
          generalize xs[j] = x at *
          go_wp2_with fail
          go_ret
          exact put_ret HC.out rfl HH.out (Below.refl _ _)
        · have HC := Lib.hid (put_new hc hcut (.inr (by rw [show j + 1 - 1 = j from rfl, hgt]; exact heq)))
          have hne : (xs[j] == n) = false := by simpa using heq
          clear hc hgt hcut heq
          rw [show ((j + 1 : Nat) : Int) = (j : Int) + 1 from rfl]
          generalize xs[j] = x at *
          by_cases hcap : cap = j + 1
          · obtain rfl : cap = j + 1 := hcap
            have hdrop := Lib.hid (show xs.drop (j + 1) = [] from List.drop_eq_nil_of_le (by omega))
            go_wp2_with (first
              | (at_builtin; ((refine wpList_append_own _ rfl (.tmp 34) (.tmp 37) 26 rfl w.heap.size 3 i0 (.int .i64 0) 1 8 Try.underlying26 hi0 hz0 hz1 hz2 rfl (by decide) _ 0 [] rfl (World.ownsRow_made w #[] 0 (Nat.le_refl _) (by unfold maxLen; omega) rfl) ⟨g, 0, none⟩ (j + 1) (j + 1) (((xs.drop 0).take (j + 1)).map (.int .i64)) rfl (by simp <;> omega) (O1.out.part 0 (j + 1) (by omega)) (by intro u hu; obtain ⟨x, _, rfl⟩ := List.mem_map.1 hu; rfl) (by unfold maxLen; omega) (by omega) (by simp) ?_)); intro v1 w1 own1 grow1 _; have B1 := Lib.hid (((Below.refl _ w).alloc (Nat.le_refl _) _).grown grow1 (by simp) (by intro k e; cases e; exact Nat.le_refl _)); have O2 := Lib.hid (HH.out.below B1.out); have Own1 := Lib.hid own1; have s1 := B1.out.size; clear own1 grow1)
              | (at_builtin; ((refine wpList_append_own _ rfl (.tmp 39) (.tmp 41) 26 rfl w.heap.size 3 i0 (.int .i64 0) 1 8 Try.underlying26 hi0 hz0 hz1 hz2 rfl (by decide) _ _ _ rfl (World.ownsRow.alloc Own1.out _) ⟨w1.heap.size, 0, none⟩ 1 1 [.int .i64 n] rfl rfl (cell_one_new _ _ _) (by simp [Value.oneCell']) (by unfold maxLen; omega) (by omega) (by simp; omega) ?_)); intro v2 w2 own2 grow2 _; have B2 := Lib.hid ((B1.out.alloc (by omega) _).grown grow2 (by simp; omega) (fun k e => (World.ownsRow.lt Own1.out k e).1)); have O3 := Lib.hid (HH.out.below B2.out); have Own2 := Lib.hid own2; have s2 := B2.out.size; clear own2 grow2)
              | (at_builtin; ((refine wpList_append_own _ rfl (.tmp 43) (.tmp 46) 26 rfl w.heap.size 3 i0 (.int .i64 0) 1 8 Try.underlying26 hi0 hz0 hz1 hz2 rfl (by decide) _ _ _ rfl Own2.out ⟨g, 0, none⟩ 0 0 [] rfl rfl (by intro j u hu; simp at hu) (by intro u hu; simp at hu) (by unfold maxLen; omega) (by omega) (by omega) ?_)); intro v3 w3 own3 grow3 _; have B3 := Lib.hid (B2.out.grown grow3 (by omega) (fun k e => (World.ownsRow.lt Own2.out k e).1)); obtain ⟨g3, c3, rfl, own4⟩ := put_last (base := base) (ys := xs.take ((j + 1)) ++ [n] ++ xs.drop ((j + 1))) hbg own3 (by simp [hdrop.out] <;> omega) (by rw [hdrop.out]; simp) (by simp <;> omega); have Own3 := Lib.hid own4; clear own3 own4 grow3))
            go_ret
            exact put_ret HC.out (by simp [hdrop.out] <;> omega) Own3.out B3.out
          · 
            go_wp2_with (first
              | (at_builtin; ((refine wpList_append_own _ rfl (.tmp 34) (.tmp 37) 26 rfl w.heap.size 3 i0 (.int .i64 0) 1 8 Try.underlying26 hi0 hz0 hz1 hz2 rfl (by decide) _ 0 [] rfl (World.ownsRow_made w #[] 0 (Nat.le_refl _) (by unfold maxLen; omega) rfl) ⟨g, 0, none⟩ (j + 1) cap (((xs.drop 0).take (j + 1)).map (.int .i64)) rfl (by simp <;> omega) (O1.out.part 0 (j + 1) (by omega)) (by intro u hu; obtain ⟨x, _, rfl⟩ := List.mem_map.1 hu; rfl) (by unfold maxLen; omega) (by omega) (by simp) ?_)); intro v1 w1 own1 grow1 _; have B1 := Lib.hid (((Below.refl _ w).alloc (Nat.le_refl _) _).grown grow1 (by simp) (by intro k e; cases e; exact Nat.le_refl _)); have O2 := Lib.hid (HH.out.below B1.out); have Own1 := Lib.hid own1; have s1 := B1.out.size; clear own1 grow1)
              | (at_builtin; ((refine wpList_append_own _ rfl (.tmp 39) (.tmp 41) 26 rfl w.heap.size 3 i0 (.int .i64 0) 1 8 Try.underlying26 hi0 hz0 hz1 hz2 rfl (by decide) _ _ _ rfl (World.ownsRow.alloc Own1.out _) ⟨w1.heap.size, 0, none⟩ 1 1 [.int .i64 n] rfl rfl (cell_one_new _ _ _) (by simp [Value.oneCell']) (by unfold maxLen; omega) (by omega) (by simp; omega) ?_)); intro v2 w2 own2 grow2 _; have B2 := Lib.hid ((B1.out.alloc (by omega) _).grown grow2 (by simp; omega) (fun k e => (World.ownsRow.lt Own1.out k e).1)); have O3 := Lib.hid (HH.out.below B2.out); have Own2 := Lib.hid own2; have s2 := B2.out.size; clear own2 grow2)
              | (at_builtin; ((refine wpList_append_own _ rfl (.tmp 43) (.tmp 46) 26 rfl w.heap.size 3 i0 (.int .i64 0) 1 8 Try.underlying26 hi0 hz0 hz1 hz2 rfl (by decide) _ _ _ rfl Own2.out ⟨g, (j + 1), none⟩ (xs.length - (j + 1)) (cap - (j + 1)) (((xs.drop (j + 1)).take (xs.length - (j + 1))).map (.int .i64)) rfl (by simp <;> omega) (O3.out.part (j + 1) (xs.length - (j + 1)) (by omega)) (by intro u hu; obtain ⟨x, _, rfl⟩ := List.mem_map.1 hu; rfl) (by unfold maxLen; omega) (by omega) (by omega) ?_)); intro v3 w3 own3 grow3 _; have B3 := Lib.hid (B2.out.grown grow3 (by omega) (fun k e => (World.ownsRow.lt Own2.out k e).1)); obtain ⟨g3, c3, rfl, own4⟩ := put_last (base := base) (ys := xs.take ((j + 1)) ++ [n] ++ xs.drop ((j + 1))) hbg own3 (by simp <;> omega) (by simp [List.take_of_length_le]) (by simp <;> omega); have Own3 := Lib.hid own4; clear own3 own4 grow3))
            go_ret
            exact put_ret HC.out (by simp <;> omega) Own3.out B3.out

end Go.Proofs.Ytbnebghpakllpaa
