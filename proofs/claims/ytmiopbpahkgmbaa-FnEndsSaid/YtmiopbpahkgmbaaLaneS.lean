/- Lanes: the model's functions. -/
import Derived.Test.YtmiopbpahkgmbaaLane
import Derived.Test.YtmiopbpahkgmbaaReads
import Derived.Test.YtmiopbpahkgmbaaSeek
namespace Go.Proofs.Ytmiopbpahkgmbaa
open Go.RowKit Go

theorem row_set {w0 w : World} {g cap n : Nat} {rs : List Int} (h : Own w0.heap.size w (.slice (some ⟨g, 0, none⟩) n cap) rs) (hb : Below w0.heap.size w0 w) (k : Nat) (v : Int) :
    RowSaid (rs.set k v) w0 (.returned (.slice (some ⟨g, 0, none⟩) n cap)) (w.setCell ⟨g, k, none⟩ (.int .i64 v)) := by
  have hg := (World.ownsRow.lt h g rfl).1
  obtain ⟨a, c, hv⟩ := h.form
  have hn : n = rs.length := by simp only [Value.slice.injEq] at hv; exact hv.2.1
  subst hn
  exact ⟨_, rfl, h.stored k v, hb.setCell hg _⟩

theorem made_empty {base : Nat} (w : World) (n : Nat) (hn : n = w.heap.size) (hb : base ≤ w.heap.size) : (w.alloc (.cells #[] 3)).ownsRow base 3 1 (.slice (some ⟨n, 0, none⟩) 0 0) 0 [] := by
  subst hn
  exact World.ownsRow_made w #[] 0 hb (by unfold maxLen; omega) rfl

theorem isSome_set {w : World} {p : Addr} {v : Value} (h : (w.cell? p).isSome = true) : ((w.setCell p v).cell? p).isSome = true := by
  obtain ⟨u, hu⟩ := Option.isSome_iff_exists.1 h
  rw [World.cell?_setCell_same _ _ _ hu]
  rfl
theorem row_setD {w0 w : World} {g cap n : Nat} {rs : List Int} (h : Own w0.heap.size w (.slice (some ⟨g, 0, none⟩) n cap) rs) (hb : Below w0.heap.size w0 w) (k : Nat) (v : Int) :
    RowSaid (rs.set k v) w0 (.returned (.slice (some ⟨g, 0, none⟩) n cap)) (w.setCell ⟨g, k, none⟩ (.int .i64 v)).drew := by
  obtain ⟨u, e, ho, hb2⟩ := row_set h hb k v
  exact ⟨u, e, ho.below (below_drewN _ _ 1), hb2.trans (below_drewN _ _ 1)⟩

/-- Behind the copy of the registers: the copy, the instruction's own block, the registers. -/
structure Copied (w w2 : World) (gO : Nat) (o a b c : Int) (rs : List Int) (g off : Nat) : Prop where
  bel : Below w.heap.size w w2
  i0 : w2.cell? ⟨w.heap.size, 0, none⟩ = some (.int .i64 o)
  i1 : w2.cell? ⟨w.heap.size, 1, none⟩ = some (.int .i64 a)
  i2 : w2.cell? ⟨w.heap.size, 2, none⟩ = some (.int .i64 b)
  i3 : w2.cell? ⟨w.heap.size, 3, none⟩ = some (.int .i64 c)
  reg : ∀ k : Nat, k < 4 → w2.cell? ⟨g, off + k, none⟩ = some (.int .i64 (rg rs k))
  out : ∀ k : Nat, k < 4 → w2.cell? ⟨gO, k, none⟩ = some (.int .i64 (rg rs k))
  fz : ∀ k : Nat, w2.frozen? ⟨gO, k, none⟩ = false
  gl : g < w2.heap.size
  ne : gO ≠ w.heap.size ∧ gO ≠ g

theorem copied {B : Nat} {w w2 : World} {o a b c : Int} {rs : List Int} {g off : Nat} {v2 : Value} (hl : rs.length = 4) (h : Nums B w (some ⟨g, off, none⟩) rs) (hB : B ≤ w.heap.size)
    (hown2 : w2.ownsRow w.heap.size 3 1 v2 (0 + 4) ([] ++ rs.map (.int .i64))) (hg2 : ((w.alloc (.cells #[.int .i64 o, .int .i64 a, .int .i64 b, .int .i64 c] 33)).alloc (.cells #[] 3)).grownBy w2 (Value.slice (some ⟨w.heap.size + 1, 0, none⟩) 0 0).ownBlock)
    (hat : v2.ownBlock = (Value.slice (some ⟨w.heap.size + 1, 0, none⟩) 0 0).ownBlock ∨ v2.ownBlock = some ((w.alloc (.cells #[.int .i64 o, .int .i64 a, .int .i64 b, .int .i64 c] 33)).alloc (.cells #[] 3)).heap.size) :
    ∃ gO cO, v2 = .slice (some ⟨gO, 0, none⟩) 4 cO ∧ Own w.heap.size w2 (.slice (some ⟨gO, 0, none⟩) 4 cO) rs ∧ Copied w w2 gO o a b c rs g off := by
  have hown : Own w.heap.size w2 v2 rs := by
    unfold Own
    rw [hl]
    rw [Nat.zero_add, List.nil_append] at hown2
    exact hown2
  obtain ⟨av, cv, rfl⟩ := hown.form
  obtain ⟨gO, rfl, hgO, hgO2, _⟩ := hown.cell 0 (by omega)
  rw [hl] at hown ⊢
  have hne : gO = w.heap.size + 1 ∨ gO = w.heap.size + 2 := by
    rcases hat with e | e
    · simp [Value.ownBlock] at e; exact .inl e
    · simp [Value.ownBlock] at e; exact .inr (by omega)
  obtain ⟨g', off', e', hgB, _⟩ := h.2 0 (by omega)
  have hgg : g < B := by cases e'; exact hgB
  have hbel : Below w.heap.size w w2 := ((below2 w _ _).grown hg2 (by simp; omega) (fun k e => by simp [Value.ownBlock] at e; omega))
  have hblk : ∀ j, w2.cell? ⟨w.heap.size, j, none⟩ = ((w.alloc (.cells #[.int .i64 o, .int .i64 a, .int .i64 b, .int .i64 c] 33)).alloc (.cells #[] 3)).cell? ⟨w.heap.size, j, none⟩ := fun j => World.cell?_of_block (hg2.block w.heap.size (by simp; omega) (by simp [Value.ownBlock]))
  have hnum : ∀ k : Nat, k < 4 → ∃ hk : k < rs.length, rg rs k = rs[k] := fun k hk => ⟨by omega, by unfold rg; rw [Int.toNat_natCast, List.getD_eq_getElem?_getD, List.getElem?_eq_getElem (by omega)]; rfl⟩
  refine ⟨gO, cv, rfl, hown, hbel, by rw [hblk]; simp, by rw [hblk]; simp, by rw [hblk]; simp, by rw [hblk]; simp, fun k hk => ?_, fun k hk => ?_, fun k => ?_, Nat.lt_of_lt_of_le (by omega) hbel.size, ⟨by omega, by omega⟩⟩
  · obtain ⟨hk', e⟩ := hnum k hk
    obtain ⟨g2, o2, e2, hg2B, hc⟩ := h.2 k hk'
    cases e2
    rw [e, hbel.cell (p := ⟨g, off + k, none⟩) (by show g < w.heap.size; omega)]
    exact hc
  · obtain ⟨hk', e⟩ := hnum k hk
    obtain ⟨g2, e2, _, _, hc⟩ := hown.cell k hk'
    cases e2
    rw [e]
    exact hc
  · exact World.ownsRow.frozenAt (by have := hown; unfold Own at this; rw [hl] at this; exact this) k

set_option maxRecDepth 100000 in
set_option maxHeartbeats 2000000 in
theorem sApply1_any (B : Nat) (w : World) (a : Nat) (b c t : Int) (rs : List Int) (g off cap : Nat) (hl : rs.length = 4) (ha : a < 4) (h : Nums B w (some ⟨g, off, none⟩) rs) (hB : B ≤ w.heap.size) :
    Calls Try.prog 96 #[.agg #[.int .i64 1, .int .i64 a, .int .i64 b, .int .i64 c], .int .i64 t, .slice (some ⟨g, off, none⟩) 4 cap] w (RowSaid (rs.set a b) w) := by
  obtain ⟨i0, hi0, hz0, hz1, hz2⟩ := info_parts info_int
  have HS := Lib.hid (nums_cells ((h.kept ((below1 w (.cells #[.int .i64 1, .int .i64 a, .int .i64 b, .int .i64 c] 33)).mono hB)).kept (Below.alloc (Below.refl _ _) (by simp; omega) (.cells #[] 3))))
  have HCP := Lib.hid (fun (w2 : World) (v2 : Value) => @copied B w w2 1 a b c rs g off v2 hl h hB)
  have HME := Lib.hid (made_empty (base := w.heap.size) (w.alloc (.cells #[.int .i64 1, .int .i64 a, .int .i64 b, .int .i64 c] 33)) (w.heap.size + 1) (by simp) (by simp))
  have HBS := Lib.hid (show w.heap.size ≤ ((w.alloc (.cells #[.int .i64 1, .int .i64 a, .int .i64 b, .int .i64 c] 33)).alloc (.cells #[] 3)).heap.size by simp; omega)
  have HML := Lib.hid (show (rs.map (Value.int .i64)).length = 4 * 1 by simp [hl])
  clear h hl
  have a0 : (0 : Int) ≤ (a : Int) := Int.natCast_nonneg _; have a1 : (a : Int) < 4 := (by omega)
  go_enter Try.func96, Try.ntmps96
  go_wp2_with (at_builtin; go_loud (refine wpList_append_own_at _ rfl (.tmp 8) (.tmp 9) 25 rfl w.heap.size 3 i0 (.int .i64 0) 1 8 Try.underlying25 hi0 hz0 hz1 hz2 rfl (by decide) _ 0 [] rfl HME.out ⟨g, off, none⟩ 4 cap (rs.map (.int .i64)) rfl HML.out HS.out (by intro u hu; obtain ⟨x, _, rfl⟩ := List.mem_map.1 hu; rfl) (by unfold maxLen; omega) (by omega) HBS.out ?_); intro v2 w2 hown2 hgrow2 _ hat2; go_loud (obtain ⟨gO, cO, rfl, hO, hC⟩ := HCP.out w2 v2 hown2 hgrow2 hat2); have HO := Lib.hid hO; have HC := Lib.hid hC; have i0' := hC.i0; have i1' := hC.i1; have i2' := hC.i2; have i3' := hC.i3; have hgl := hC.gl; obtain ⟨hn1, hn2⟩ := hC.ne; clear hown2 hgrow2 hat2 hO hC; have ho := HC.out.out a ha; have hf := HC.out.fz a)
  go_ret
  exact row_set HO.out HC.out.bel _ _

set_option maxRecDepth 100000 in
set_option maxHeartbeats 2000000 in
theorem sApply8_any (B : Nat) (w : World) (a : Nat) (b c t : Int) (rs : List Int) (g off cap : Nat) (hl : rs.length = 4) (ha : a < 4) (h : Nums B w (some ⟨g, off, none⟩) rs) (hB : B ≤ w.heap.size) :
    Calls Try.prog 96 #[.agg #[.int .i64 8, .int .i64 a, .int .i64 b, .int .i64 c], .int .i64 t, .slice (some ⟨g, off, none⟩) 4 cap] w (RowSaid (rs.set a t) w) := by
  obtain ⟨i0, hi0, hz0, hz1, hz2⟩ := info_parts info_int
  have HS := Lib.hid (nums_cells ((h.kept ((below1 w (.cells #[.int .i64 8, .int .i64 a, .int .i64 b, .int .i64 c] 33)).mono hB)).kept (Below.alloc (Below.refl _ _) (by simp; omega) (.cells #[] 3))))
  have HCP := Lib.hid (fun (w2 : World) (v2 : Value) => @copied B w w2 8 a b c rs g off v2 hl h hB)
  have HME := Lib.hid (made_empty (base := w.heap.size) (w.alloc (.cells #[.int .i64 8, .int .i64 a, .int .i64 b, .int .i64 c] 33)) (w.heap.size + 1) (by simp) (by simp))
  have HBS := Lib.hid (show w.heap.size ≤ ((w.alloc (.cells #[.int .i64 8, .int .i64 a, .int .i64 b, .int .i64 c] 33)).alloc (.cells #[] 3)).heap.size by simp; omega)
  have HML := Lib.hid (show (rs.map (Value.int .i64)).length = 4 * 1 by simp [hl])
  clear h hl
  have a0 : (0 : Int) ≤ (a : Int) := Int.natCast_nonneg _; have a1 : (a : Int) < 4 := (by omega)
  go_enter Try.func96, Try.ntmps96
  go_wp2_with (at_builtin; go_loud (refine wpList_append_own_at _ rfl (.tmp 8) (.tmp 9) 25 rfl w.heap.size 3 i0 (.int .i64 0) 1 8 Try.underlying25 hi0 hz0 hz1 hz2 rfl (by decide) _ 0 [] rfl HME.out ⟨g, off, none⟩ 4 cap (rs.map (.int .i64)) rfl HML.out HS.out (by intro u hu; obtain ⟨x, _, rfl⟩ := List.mem_map.1 hu; rfl) (by unfold maxLen; omega) (by omega) HBS.out ?_); intro v2 w2 hown2 hgrow2 _ hat2; go_loud (obtain ⟨gO, cO, rfl, hO, hC⟩ := HCP.out w2 v2 hown2 hgrow2 hat2); have HO := Lib.hid hO; have HC := Lib.hid hC; have i0' := hC.i0; have i1' := hC.i1; have i2' := hC.i2; have i3' := hC.i3; have hgl := hC.gl; obtain ⟨hn1, hn2⟩ := hC.ne; clear hown2 hgrow2 hat2 hO hC; have ho := HC.out.out a ha; have hf := HC.out.fz a)
  go_ret
  exact row_set HO.out HC.out.bel _ _

set_option maxRecDepth 100000 in
set_option maxHeartbeats 2000000 in
theorem sApply2_any (B : Nat) (w : World) (a b : Nat) (c t : Int) (rs : List Int) (g off cap : Nat) (hl : rs.length = 4) (ha : a < 4) (hb : b < 4) (h : Nums B w (some ⟨g, off, none⟩) rs) (hB : B ≤ w.heap.size) :
    Calls Try.prog 96 #[.agg #[.int .i64 2, .int .i64 a, .int .i64 b, .int .i64 c], .int .i64 t, .slice (some ⟨g, off, none⟩) 4 cap] w (RowSaid (rs.set a (rg rs b)) w) := by
  obtain ⟨i0, hi0, hz0, hz1, hz2⟩ := info_parts info_int
  have HS := Lib.hid (nums_cells ((h.kept ((below1 w (.cells #[.int .i64 2, .int .i64 a, .int .i64 b, .int .i64 c] 33)).mono hB)).kept (Below.alloc (Below.refl _ _) (by simp; omega) (.cells #[] 3))))
  have HCP := Lib.hid (fun (w2 : World) (v2 : Value) => @copied B w w2 2 a b c rs g off v2 hl h hB)
  have HME := Lib.hid (made_empty (base := w.heap.size) (w.alloc (.cells #[.int .i64 2, .int .i64 a, .int .i64 b, .int .i64 c] 33)) (w.heap.size + 1) (by simp) (by simp))
  have HBS := Lib.hid (show w.heap.size ≤ ((w.alloc (.cells #[.int .i64 2, .int .i64 a, .int .i64 b, .int .i64 c] 33)).alloc (.cells #[] 3)).heap.size by simp; omega)
  have HML := Lib.hid (show (rs.map (Value.int .i64)).length = 4 * 1 by simp [hl])
  clear h hl
  have a0 : (0 : Int) ≤ (a : Int) := Int.natCast_nonneg _; have a1 : (a : Int) < 4 := (by omega); have b0 : (0 : Int) ≤ (b : Int) := Int.natCast_nonneg _; have b1 : (b : Int) < 4 := (by omega)
  go_enter Try.func96, Try.ntmps96
  go_wp2_with (at_builtin; go_loud (refine wpList_append_own_at _ rfl (.tmp 8) (.tmp 9) 25 rfl w.heap.size 3 i0 (.int .i64 0) 1 8 Try.underlying25 hi0 hz0 hz1 hz2 rfl (by decide) _ 0 [] rfl HME.out ⟨g, off, none⟩ 4 cap (rs.map (.int .i64)) rfl HML.out HS.out (by intro u hu; obtain ⟨x, _, rfl⟩ := List.mem_map.1 hu; rfl) (by unfold maxLen; omega) (by omega) HBS.out ?_); intro v2 w2 hown2 hgrow2 _ hat2; go_loud (obtain ⟨gO, cO, rfl, hO, hC⟩ := HCP.out w2 v2 hown2 hgrow2 hat2); have HO := Lib.hid hO; have HC := Lib.hid hC; have i0' := hC.i0; have i1' := hC.i1; have i2' := hC.i2; have i3' := hC.i3; have hgl := hC.gl; obtain ⟨hn1, hn2⟩ := hC.ne; clear hown2 hgrow2 hat2 hO hC; have ho := HC.out.out a ha; have hf := HC.out.fz a; have hr := HC.out.reg b hb; generalize rg rs (b : Int) = y at *)
  go_region
  go_wp2_with fail
  go_ret
  exact row_setD HO.out HC.out.bel _ _

set_option maxRecDepth 100000 in
set_option maxHeartbeats 2000000 in
theorem sApply6_any (B : Nat) (w : World) (a b c : Nat) (t : Int) (rs : List Int) (g off cap : Nat) (hl : rs.length = 4) (ha : a < 4) (hb : b < 4) (hc : c < 4) (h : Nums B w (some ⟨g, off, none⟩) rs) (hB : B ≤ w.heap.size) :
    Calls Try.prog 96 #[.agg #[.int .i64 6, .int .i64 a, .int .i64 b, .int .i64 c], .int .i64 t, .slice (some ⟨g, off, none⟩) 4 cap] w (RowSaid (rs.set a (xorW (rg rs b) (rg rs c))) w) := by
  obtain ⟨i0, hi0, hz0, hz1, hz2⟩ := info_parts info_int
  have HS := Lib.hid (nums_cells ((h.kept ((below1 w (.cells #[.int .i64 6, .int .i64 a, .int .i64 b, .int .i64 c] 33)).mono hB)).kept (Below.alloc (Below.refl _ _) (by simp; omega) (.cells #[] 3))))
  have HCP := Lib.hid (fun (w2 : World) (v2 : Value) => @copied B w w2 6 a b c rs g off v2 hl h hB)
  have HME := Lib.hid (made_empty (base := w.heap.size) (w.alloc (.cells #[.int .i64 6, .int .i64 a, .int .i64 b, .int .i64 c] 33)) (w.heap.size + 1) (by simp) (by simp))
  have HBS := Lib.hid (show w.heap.size ≤ ((w.alloc (.cells #[.int .i64 6, .int .i64 a, .int .i64 b, .int .i64 c] 33)).alloc (.cells #[] 3)).heap.size by simp; omega)
  have HML := Lib.hid (show (rs.map (Value.int .i64)).length = 4 * 1 by simp [hl])
  clear h hl
  have a0 : (0 : Int) ≤ (a : Int) := Int.natCast_nonneg _; have a1 : (a : Int) < 4 := (by omega); have b0 : (0 : Int) ≤ (b : Int) := Int.natCast_nonneg _; have b1 : (b : Int) < 4 := (by omega); have c0 : (0 : Int) ≤ (c : Int) := Int.natCast_nonneg _; have c1 : (c : Int) < 4 := (by omega)
  go_enter Try.func96, Try.ntmps96
  go_wp2_with (at_builtin; go_loud (refine wpList_append_own_at _ rfl (.tmp 8) (.tmp 9) 25 rfl w.heap.size 3 i0 (.int .i64 0) 1 8 Try.underlying25 hi0 hz0 hz1 hz2 rfl (by decide) _ 0 [] rfl HME.out ⟨g, off, none⟩ 4 cap (rs.map (.int .i64)) rfl HML.out HS.out (by intro u hu; obtain ⟨x, _, rfl⟩ := List.mem_map.1 hu; rfl) (by unfold maxLen; omega) (by omega) HBS.out ?_); intro v2 w2 hown2 hgrow2 _ hat2; go_loud (obtain ⟨gO, cO, rfl, hO, hC⟩ := HCP.out w2 v2 hown2 hgrow2 hat2); have HO := Lib.hid hO; have HC := Lib.hid hC; have i0' := hC.i0; have i1' := hC.i1; have i2' := hC.i2; have i3' := hC.i3; have hgl := hC.gl; obtain ⟨hn1, hn2⟩ := hC.ne; clear hown2 hgrow2 hat2 hO hC; have ho := HC.out.out a ha; have hf := HC.out.fz a; have hr := HC.out.reg b hb; have hs := HC.out.reg c hc; generalize rg rs (b : Int) = y at *; generalize rg rs (c : Int) = z at *)
  go_region
  go_wp2_with fail
  go_ret
  exact row_setD HO.out HC.out.bel _ _

set_option maxRecDepth 100000 in
set_option maxHeartbeats 2000000 in
theorem sApply3_any (B : Nat) (w : World) (a b c : Nat) (t : Int) (rs : List Int) (g off cap : Nat) (hl : rs.length = 4) (ha : a < 4) (hb : b < 4) (hc : c < 4) (h : Nums B w (some ⟨g, off, none⟩) rs) (hB : B ≤ w.heap.size) :
    Calls Try.prog 96 #[.agg #[.int .i64 3, .int .i64 a, .int .i64 b, .int .i64 c], .int .i64 t, .slice (some ⟨g, off, none⟩) 4 cap] w (RowSaid (rs.set a (addW (rg rs b) (rg rs c))) w) := by
  obtain ⟨i0, hi0, hz0, hz1, hz2⟩ := info_parts info_int
  have HS := Lib.hid (nums_cells ((h.kept ((below1 w (.cells #[.int .i64 3, .int .i64 a, .int .i64 b, .int .i64 c] 33)).mono hB)).kept (Below.alloc (Below.refl _ _) (by simp; omega) (.cells #[] 3))))
  have HCP := Lib.hid (fun (w2 : World) (v2 : Value) => @copied B w w2 3 a b c rs g off v2 hl h hB)
  have HME := Lib.hid (made_empty (base := w.heap.size) (w.alloc (.cells #[.int .i64 3, .int .i64 a, .int .i64 b, .int .i64 c] 33)) (w.heap.size + 1) (by simp) (by simp))
  have HBS := Lib.hid (show w.heap.size ≤ ((w.alloc (.cells #[.int .i64 3, .int .i64 a, .int .i64 b, .int .i64 c] 33)).alloc (.cells #[] 3)).heap.size by simp; omega)
  have HML := Lib.hid (show (rs.map (Value.int .i64)).length = 4 * 1 by simp [hl])
  clear h hl
  have a0 : (0 : Int) ≤ (a : Int) := Int.natCast_nonneg _; have a1 : (a : Int) < 4 := (by omega); have b0 : (0 : Int) ≤ (b : Int) := Int.natCast_nonneg _; have b1 : (b : Int) < 4 := (by omega); have c0 : (0 : Int) ≤ (c : Int) := Int.natCast_nonneg _; have c1 : (c : Int) < 4 := (by omega)
  go_enter Try.func96, Try.ntmps96
  go_wp2_with (at_builtin; go_loud (refine wpList_append_own_at _ rfl (.tmp 8) (.tmp 9) 25 rfl w.heap.size 3 i0 (.int .i64 0) 1 8 Try.underlying25 hi0 hz0 hz1 hz2 rfl (by decide) _ 0 [] rfl HME.out ⟨g, off, none⟩ 4 cap (rs.map (.int .i64)) rfl HML.out HS.out (by intro u hu; obtain ⟨x, _, rfl⟩ := List.mem_map.1 hu; rfl) (by unfold maxLen; omega) (by omega) HBS.out ?_); intro v2 w2 hown2 hgrow2 _ hat2; go_loud (obtain ⟨gO, cO, rfl, hO, hC⟩ := HCP.out w2 v2 hown2 hgrow2 hat2); have HO := Lib.hid hO; have HC := Lib.hid hC; have i0' := hC.i0; have i1' := hC.i1; have i2' := hC.i2; have i3' := hC.i3; have hgl := hC.gl; obtain ⟨hn1, hn2⟩ := hC.ne; clear hown2 hgrow2 hat2 hO hC; have ho := HC.out.out a ha; have hf := HC.out.fz a; have hr := HC.out.reg b hb; have hs := HC.out.reg c hc; generalize rg rs (b : Int) = y at *; generalize rg rs (c : Int) = z at *; have ho2 : (w2.cell? ⟨gO, a, none⟩).isSome = true := (by rw [ho]; rfl); have HW := Lib.hid (fun W => sAdd_any y z W); generalize addW y z = u at *)
  go_region_held3 (fun w' => (w'.cell? ⟨w.heap.size, 1, none⟩ = some (.int .i64 (a : Int)) ∧ w'.cell? ⟨w.heap.size, 2, none⟩ = some (.int .i64 (b : Int)) ∧ w'.cell? ⟨w.heap.size, 3, none⟩ = some (.int .i64 (c : Int))) ∧ w'.cell? ⟨g, off + b, none⟩ = some (.int .i64 y) ∧ w'.cell? ⟨g, off + c, none⟩ = some (.int .i64 z)) (first | go_keep | ((repeat' apply And.intro) <;> (first | go_keep | (exact isSome_set (w := w2) ho2)))) ((first | (go_at_call 124; refine (HW.out _).mono ?_; rintro e w1 ⟨rfl, rfl⟩)))
  go_wp2_with fail
  go_ret
  exact row_setD HO.out HC.out.bel _ _

set_option maxRecDepth 100000 in
set_option maxHeartbeats 2000000 in
theorem sApply4_any (B : Nat) (w : World) (a b c : Nat) (t : Int) (rs : List Int) (g off cap : Nat) (hl : rs.length = 4) (ha : a < 4) (hb : b < 4) (hc : c < 4) (h : Nums B w (some ⟨g, off, none⟩) rs) (hB : B ≤ w.heap.size) :
    Calls Try.prog 96 #[.agg #[.int .i64 4, .int .i64 a, .int .i64 b, .int .i64 c], .int .i64 t, .slice (some ⟨g, off, none⟩) 4 cap] w (RowSaid (rs.set a (subW (rg rs b) (rg rs c))) w) := by
  obtain ⟨i0, hi0, hz0, hz1, hz2⟩ := info_parts info_int
  have HS := Lib.hid (nums_cells ((h.kept ((below1 w (.cells #[.int .i64 4, .int .i64 a, .int .i64 b, .int .i64 c] 33)).mono hB)).kept (Below.alloc (Below.refl _ _) (by simp; omega) (.cells #[] 3))))
  have HCP := Lib.hid (fun (w2 : World) (v2 : Value) => @copied B w w2 4 a b c rs g off v2 hl h hB)
  have HME := Lib.hid (made_empty (base := w.heap.size) (w.alloc (.cells #[.int .i64 4, .int .i64 a, .int .i64 b, .int .i64 c] 33)) (w.heap.size + 1) (by simp) (by simp))
  have HBS := Lib.hid (show w.heap.size ≤ ((w.alloc (.cells #[.int .i64 4, .int .i64 a, .int .i64 b, .int .i64 c] 33)).alloc (.cells #[] 3)).heap.size by simp; omega)
  have HML := Lib.hid (show (rs.map (Value.int .i64)).length = 4 * 1 by simp [hl])
  clear h hl
  have a0 : (0 : Int) ≤ (a : Int) := Int.natCast_nonneg _; have a1 : (a : Int) < 4 := (by omega); have b0 : (0 : Int) ≤ (b : Int) := Int.natCast_nonneg _; have b1 : (b : Int) < 4 := (by omega); have c0 : (0 : Int) ≤ (c : Int) := Int.natCast_nonneg _; have c1 : (c : Int) < 4 := (by omega)
  go_enter Try.func96, Try.ntmps96
  go_wp2_with (at_builtin; go_loud (refine wpList_append_own_at _ rfl (.tmp 8) (.tmp 9) 25 rfl w.heap.size 3 i0 (.int .i64 0) 1 8 Try.underlying25 hi0 hz0 hz1 hz2 rfl (by decide) _ 0 [] rfl HME.out ⟨g, off, none⟩ 4 cap (rs.map (.int .i64)) rfl HML.out HS.out (by intro u hu; obtain ⟨x, _, rfl⟩ := List.mem_map.1 hu; rfl) (by unfold maxLen; omega) (by omega) HBS.out ?_); intro v2 w2 hown2 hgrow2 _ hat2; go_loud (obtain ⟨gO, cO, rfl, hO, hC⟩ := HCP.out w2 v2 hown2 hgrow2 hat2); have HO := Lib.hid hO; have HC := Lib.hid hC; have i0' := hC.i0; have i1' := hC.i1; have i2' := hC.i2; have i3' := hC.i3; have hgl := hC.gl; obtain ⟨hn1, hn2⟩ := hC.ne; clear hown2 hgrow2 hat2 hO hC; have ho := HC.out.out a ha; have hf := HC.out.fz a; have hr := HC.out.reg b hb; have hs := HC.out.reg c hc; generalize rg rs (b : Int) = y at *; generalize rg rs (c : Int) = z at *; have ho2 : (w2.cell? ⟨gO, a, none⟩).isSome = true := (by rw [ho]; rfl); have HW := Lib.hid (fun W => sSub_any y z W); generalize subW y z = u at *)
  go_region_held3 (fun w' => (w'.cell? ⟨w.heap.size, 1, none⟩ = some (.int .i64 (a : Int)) ∧ w'.cell? ⟨w.heap.size, 2, none⟩ = some (.int .i64 (b : Int)) ∧ w'.cell? ⟨w.heap.size, 3, none⟩ = some (.int .i64 (c : Int))) ∧ w'.cell? ⟨g, off + b, none⟩ = some (.int .i64 y) ∧ w'.cell? ⟨g, off + c, none⟩ = some (.int .i64 z)) (first | go_keep | ((repeat' apply And.intro) <;> (first | go_keep | (exact isSome_set (w := w2) ho2)))) ((first | (go_at_call 125; refine (HW.out _).mono ?_; rintro e w1 ⟨rfl, rfl⟩)))
  go_wp2_with fail
  go_ret
  exact row_setD HO.out HC.out.bel _ _

set_option maxRecDepth 100000 in
set_option maxHeartbeats 2000000 in
theorem sApply5_any (B : Nat) (w : World) (a b c : Nat) (t : Int) (rs : List Int) (g off cap : Nat) (hl : rs.length = 4) (ha : a < 4) (hb : b < 4) (hc : c < 4) (h : Nums B w (some ⟨g, off, none⟩) rs) (hB : B ≤ w.heap.size) :
    Calls Try.prog 96 #[.agg #[.int .i64 5, .int .i64 a, .int .i64 b, .int .i64 c], .int .i64 t, .slice (some ⟨g, off, none⟩) 4 cap] w (RowSaid (rs.set a (mulW (rg rs b) (rg rs c))) w) := by
  obtain ⟨i0, hi0, hz0, hz1, hz2⟩ := info_parts info_int
  have HS := Lib.hid (nums_cells ((h.kept ((below1 w (.cells #[.int .i64 5, .int .i64 a, .int .i64 b, .int .i64 c] 33)).mono hB)).kept (Below.alloc (Below.refl _ _) (by simp; omega) (.cells #[] 3))))
  have HCP := Lib.hid (fun (w2 : World) (v2 : Value) => @copied B w w2 5 a b c rs g off v2 hl h hB)
  have HME := Lib.hid (made_empty (base := w.heap.size) (w.alloc (.cells #[.int .i64 5, .int .i64 a, .int .i64 b, .int .i64 c] 33)) (w.heap.size + 1) (by simp) (by simp))
  have HBS := Lib.hid (show w.heap.size ≤ ((w.alloc (.cells #[.int .i64 5, .int .i64 a, .int .i64 b, .int .i64 c] 33)).alloc (.cells #[] 3)).heap.size by simp; omega)
  have HML := Lib.hid (show (rs.map (Value.int .i64)).length = 4 * 1 by simp [hl])
  clear h hl
  have a0 : (0 : Int) ≤ (a : Int) := Int.natCast_nonneg _; have a1 : (a : Int) < 4 := (by omega); have b0 : (0 : Int) ≤ (b : Int) := Int.natCast_nonneg _; have b1 : (b : Int) < 4 := (by omega); have c0 : (0 : Int) ≤ (c : Int) := Int.natCast_nonneg _; have c1 : (c : Int) < 4 := (by omega)
  go_enter Try.func96, Try.ntmps96
  go_wp2_with (at_builtin; go_loud (refine wpList_append_own_at _ rfl (.tmp 8) (.tmp 9) 25 rfl w.heap.size 3 i0 (.int .i64 0) 1 8 Try.underlying25 hi0 hz0 hz1 hz2 rfl (by decide) _ 0 [] rfl HME.out ⟨g, off, none⟩ 4 cap (rs.map (.int .i64)) rfl HML.out HS.out (by intro u hu; obtain ⟨x, _, rfl⟩ := List.mem_map.1 hu; rfl) (by unfold maxLen; omega) (by omega) HBS.out ?_); intro v2 w2 hown2 hgrow2 _ hat2; go_loud (obtain ⟨gO, cO, rfl, hO, hC⟩ := HCP.out w2 v2 hown2 hgrow2 hat2); have HO := Lib.hid hO; have HC := Lib.hid hC; have i0' := hC.i0; have i1' := hC.i1; have i2' := hC.i2; have i3' := hC.i3; have hgl := hC.gl; obtain ⟨hn1, hn2⟩ := hC.ne; clear hown2 hgrow2 hat2 hO hC; have ho := HC.out.out a ha; have hf := HC.out.fz a; have hr := HC.out.reg b hb; have hs := HC.out.reg c hc; generalize rg rs (b : Int) = y at *; generalize rg rs (c : Int) = z at *; have ho2 : (w2.cell? ⟨gO, a, none⟩).isSome = true := (by rw [ho]; rfl); have HW := Lib.hid (fun W => sMul_any y z W); generalize mulW y z = u at *)
  go_region_held3 (fun w' => (w'.cell? ⟨w.heap.size, 1, none⟩ = some (.int .i64 (a : Int)) ∧ w'.cell? ⟨w.heap.size, 2, none⟩ = some (.int .i64 (b : Int)) ∧ w'.cell? ⟨w.heap.size, 3, none⟩ = some (.int .i64 (c : Int))) ∧ w'.cell? ⟨g, off + b, none⟩ = some (.int .i64 y) ∧ w'.cell? ⟨g, off + c, none⟩ = some (.int .i64 z)) (first | go_keep | ((repeat' apply And.intro) <;> (first | go_keep | (exact isSome_set (w := w2) ho2)))) ((first | (go_at_call 126; refine (HW.out _).mono ?_; rintro e w1 ⟨rfl, rfl⟩)))
  go_wp2_with fail
  go_ret
  exact row_setD HO.out HC.out.bel _ _

set_option maxRecDepth 100000 in
set_option maxHeartbeats 2000000 in
theorem sApply7_any (B : Nat) (w : World) (a b c : Nat) (t : Int) (rs : List Int) (g off cap : Nat) (hl : rs.length = 4) (ha : a < 4) (hb : b < 4) (hc : c < 4) (h : Nums B w (some ⟨g, off, none⟩) rs) (hB : B ≤ w.heap.size) :
    Calls Try.prog 96 #[.agg #[.int .i64 7, .int .i64 a, .int .i64 b, .int .i64 c], .int .i64 t, .slice (some ⟨g, off, none⟩) 4 cap] w (RowSaid (rs.set a (lessW (rg rs b) (rg rs c))) w) := by
  obtain ⟨i0, hi0, hz0, hz1, hz2⟩ := info_parts info_int
  have HS := Lib.hid (nums_cells ((h.kept ((below1 w (.cells #[.int .i64 7, .int .i64 a, .int .i64 b, .int .i64 c] 33)).mono hB)).kept (Below.alloc (Below.refl _ _) (by simp; omega) (.cells #[] 3))))
  have HCP := Lib.hid (fun (w2 : World) (v2 : Value) => @copied B w w2 7 a b c rs g off v2 hl h hB)
  have HME := Lib.hid (made_empty (base := w.heap.size) (w.alloc (.cells #[.int .i64 7, .int .i64 a, .int .i64 b, .int .i64 c] 33)) (w.heap.size + 1) (by simp) (by simp))
  have HBS := Lib.hid (show w.heap.size ≤ ((w.alloc (.cells #[.int .i64 7, .int .i64 a, .int .i64 b, .int .i64 c] 33)).alloc (.cells #[] 3)).heap.size by simp; omega)
  have HML := Lib.hid (show (rs.map (Value.int .i64)).length = 4 * 1 by simp [hl])
  clear h hl
  have a0 : (0 : Int) ≤ (a : Int) := Int.natCast_nonneg _; have a1 : (a : Int) < 4 := (by omega); have b0 : (0 : Int) ≤ (b : Int) := Int.natCast_nonneg _; have b1 : (b : Int) < 4 := (by omega); have c0 : (0 : Int) ≤ (c : Int) := Int.natCast_nonneg _; have c1 : (c : Int) < 4 := (by omega)
  go_enter Try.func96, Try.ntmps96
  go_wp2_with (at_builtin; go_loud (refine wpList_append_own_at _ rfl (.tmp 8) (.tmp 9) 25 rfl w.heap.size 3 i0 (.int .i64 0) 1 8 Try.underlying25 hi0 hz0 hz1 hz2 rfl (by decide) _ 0 [] rfl HME.out ⟨g, off, none⟩ 4 cap (rs.map (.int .i64)) rfl HML.out HS.out (by intro u hu; obtain ⟨x, _, rfl⟩ := List.mem_map.1 hu; rfl) (by unfold maxLen; omega) (by omega) HBS.out ?_); intro v2 w2 hown2 hgrow2 _ hat2; go_loud (obtain ⟨gO, cO, rfl, hO, hC⟩ := HCP.out w2 v2 hown2 hgrow2 hat2); have HO := Lib.hid hO; have HC := Lib.hid hC; have i0' := hC.i0; have i1' := hC.i1; have i2' := hC.i2; have i3' := hC.i3; have hgl := hC.gl; obtain ⟨hn1, hn2⟩ := hC.ne; clear hown2 hgrow2 hat2 hO hC; have ho := HC.out.out a ha; have hf := HC.out.fz a; have hr := HC.out.reg b hb; have hs := HC.out.reg c hc; generalize rg rs (b : Int) = y at *; generalize rg rs (c : Int) = z at *; have ho2 : (w2.cell? ⟨gO, a, none⟩).isSome = true := (by rw [ho]; rfl); have HW := Lib.hid (fun W => sLess_any y z W); generalize lessW y z = u at *)
  go_region_held3 (fun w' => (w'.cell? ⟨w.heap.size, 1, none⟩ = some (.int .i64 (a : Int)) ∧ w'.cell? ⟨w.heap.size, 2, none⟩ = some (.int .i64 (b : Int)) ∧ w'.cell? ⟨w.heap.size, 3, none⟩ = some (.int .i64 (c : Int))) ∧ w'.cell? ⟨g, off + b, none⟩ = some (.int .i64 y) ∧ w'.cell? ⟨g, off + c, none⟩ = some (.int .i64 z)) (first | go_keep | ((repeat' apply And.intro) <;> (first | go_keep | (exact isSome_set (w := w2) ho2)))) ((first | (go_at_call 127; refine (HW.out _).mono ?_; rintro e w1 ⟨rfl, rfl⟩)))
  go_wp2_with fail
  go_ret
  exact row_setD HO.out HC.out.bel _ _

set_option maxRecDepth 100000 in
set_option maxHeartbeats 2000000 in
theorem sApply9no_any (B : Nat) (w : World) (a b c : Nat) (t : Int) (rs : List Int) (g off cap : Nat) (hl : rs.length = 4) (ha : a < 4) (hb : b < 4) (hc : c < 4) (hz : rg rs c = 0) (h : Nums B w (some ⟨g, off, none⟩) rs) (hB : B ≤ w.heap.size) :
    Calls Try.prog 96 #[.agg #[.int .i64 9, .int .i64 a, .int .i64 b, .int .i64 c], .int .i64 t, .slice (some ⟨g, off, none⟩) 4 cap] w (RowSaid (rs) w) := by
  obtain ⟨i0, hi0, hz0, hz1, hz2⟩ := info_parts info_int
  have HS := Lib.hid (nums_cells ((h.kept ((below1 w (.cells #[.int .i64 9, .int .i64 a, .int .i64 b, .int .i64 c] 33)).mono hB)).kept (Below.alloc (Below.refl _ _) (by simp; omega) (.cells #[] 3))))
  have HCP := Lib.hid (fun (w2 : World) (v2 : Value) => @copied B w w2 9 a b c rs g off v2 hl h hB)
  have HME := Lib.hid (made_empty (base := w.heap.size) (w.alloc (.cells #[.int .i64 9, .int .i64 a, .int .i64 b, .int .i64 c] 33)) (w.heap.size + 1) (by simp) (by simp))
  have HBS := Lib.hid (show w.heap.size ≤ ((w.alloc (.cells #[.int .i64 9, .int .i64 a, .int .i64 b, .int .i64 c] 33)).alloc (.cells #[] 3)).heap.size by simp; omega)
  have HML := Lib.hid (show (rs.map (Value.int .i64)).length = 4 * 1 by simp [hl])
  clear h hl
  have a0 : (0 : Int) ≤ (a : Int) := Int.natCast_nonneg _; have a1 : (a : Int) < 4 := (by omega); have b0 : (0 : Int) ≤ (b : Int) := Int.natCast_nonneg _; have b1 : (b : Int) < 4 := (by omega); have c0 : (0 : Int) ≤ (c : Int) := Int.natCast_nonneg _; have c1 : (c : Int) < 4 := (by omega); have HZ := Lib.hid hz; clear hz
  go_enter Try.func96, Try.ntmps96
  go_wp2_with (at_builtin; go_loud (refine wpList_append_own_at _ rfl (.tmp 8) (.tmp 9) 25 rfl w.heap.size 3 i0 (.int .i64 0) 1 8 Try.underlying25 hi0 hz0 hz1 hz2 rfl (by decide) _ 0 [] rfl HME.out ⟨g, off, none⟩ 4 cap (rs.map (.int .i64)) rfl HML.out HS.out (by intro u hu; obtain ⟨x, _, rfl⟩ := List.mem_map.1 hu; rfl) (by unfold maxLen; omega) (by omega) HBS.out ?_); intro v2 w2 hown2 hgrow2 _ hat2; go_loud (obtain ⟨gO, cO, rfl, hO, hC⟩ := HCP.out w2 v2 hown2 hgrow2 hat2); have HO := Lib.hid hO; have HC := Lib.hid hC; have i0' := hC.i0; have i1' := hC.i1; have i2' := hC.i2; have i3' := hC.i3; have hgl := hC.gl; obtain ⟨hn1, hn2⟩ := hC.ne; clear hown2 hgrow2 hat2 hO hC; have hs := HC.out.reg c hc; rw [HZ.out] at hs)
  go_ret
  exact ⟨_, rfl, HO.out, HC.out.bel⟩

set_option maxRecDepth 100000 in
set_option maxHeartbeats 2000000 in
theorem sApply9yes_any (B : Nat) (w : World) (a b c : Nat) (t : Int) (rs : List Int) (g off cap : Nat) (hl : rs.length = 4) (ha : a < 4) (hb : b < 4) (hc : c < 4) (hz : rg rs c ≠ 0) (h : Nums B w (some ⟨g, off, none⟩) rs) (hB : B ≤ w.heap.size) :
    Calls Try.prog 96 #[.agg #[.int .i64 9, .int .i64 a, .int .i64 b, .int .i64 c], .int .i64 t, .slice (some ⟨g, off, none⟩) 4 cap] w (RowSaid (rs.set a (rg rs b)) w) := by
  obtain ⟨i0, hi0, hz0, hz1, hz2⟩ := info_parts info_int
  have HS := Lib.hid (nums_cells ((h.kept ((below1 w (.cells #[.int .i64 9, .int .i64 a, .int .i64 b, .int .i64 c] 33)).mono hB)).kept (Below.alloc (Below.refl _ _) (by simp; omega) (.cells #[] 3))))
  have HCP := Lib.hid (fun (w2 : World) (v2 : Value) => @copied B w w2 9 a b c rs g off v2 hl h hB)
  have HME := Lib.hid (made_empty (base := w.heap.size) (w.alloc (.cells #[.int .i64 9, .int .i64 a, .int .i64 b, .int .i64 c] 33)) (w.heap.size + 1) (by simp) (by simp))
  have HBS := Lib.hid (show w.heap.size ≤ ((w.alloc (.cells #[.int .i64 9, .int .i64 a, .int .i64 b, .int .i64 c] 33)).alloc (.cells #[] 3)).heap.size by simp; omega)
  have HML := Lib.hid (show (rs.map (Value.int .i64)).length = 4 * 1 by simp [hl])
  clear h hl
  have a0 : (0 : Int) ≤ (a : Int) := Int.natCast_nonneg _; have a1 : (a : Int) < 4 := (by omega); have b0 : (0 : Int) ≤ (b : Int) := Int.natCast_nonneg _; have b1 : (b : Int) < 4 := (by omega); have c0 : (0 : Int) ≤ (c : Int) := Int.natCast_nonneg _; have c1 : (c : Int) < 4 := (by omega); have HZ := Lib.hid (show (rg rs (c : Int) == 0) = false by simpa using hz); clear hz
  go_enter Try.func96, Try.ntmps96
  go_wp2_with (at_builtin; go_loud (refine wpList_append_own_at _ rfl (.tmp 8) (.tmp 9) 25 rfl w.heap.size 3 i0 (.int .i64 0) 1 8 Try.underlying25 hi0 hz0 hz1 hz2 rfl (by decide) _ 0 [] rfl HME.out ⟨g, off, none⟩ 4 cap (rs.map (.int .i64)) rfl HML.out HS.out (by intro u hu; obtain ⟨x, _, rfl⟩ := List.mem_map.1 hu; rfl) (by unfold maxLen; omega) (by omega) HBS.out ?_); intro v2 w2 hown2 hgrow2 _ hat2; go_loud (obtain ⟨gO, cO, rfl, hO, hC⟩ := HCP.out w2 v2 hown2 hgrow2 hat2); have HO := Lib.hid hO; have HC := Lib.hid hC; have i0' := hC.i0; have i1' := hC.i1; have i2' := hC.i2; have i3' := hC.i3; have hgl := hC.gl; obtain ⟨hn1, hn2⟩ := hC.ne; clear hown2 hgrow2 hat2 hO hC; have ho := HC.out.out a ha; have hf := HC.out.fz a; have hr := HC.out.reg b hb; have hs := HC.out.reg c hc; generalize rg rs (b : Int) = y at *; generalize rg rs (c : Int) = z at *; have hz0 := HZ.out)
  go_region
  go_wp2_with fail
  go_ret
  exact row_setD HO.out HC.out.bel _ _

set_option maxRecDepth 100000 in
set_option maxHeartbeats 2000000 in
theorem sApplyNo_any (B : Nat) (w : World) (o a b c t : Int) (rs : List Int) (g off cap : Nat) (hl : rs.length = 4) (e1 : (o == 1) = false) (e2 : (o == 2) = false) (e3 : (o == 3) = false) (e4 : (o == 4) = false) (e5 : (o == 5) = false) (e6 : (o == 6) = false) (e7 : (o == 7) = false) (e8 : (o == 8) = false) (e9 : (o == 9) = false) (h : Nums B w (some ⟨g, off, none⟩) rs) (hB : B ≤ w.heap.size) :
    Calls Try.prog 96 #[.agg #[.int .i64 o, .int .i64 a, .int .i64 b, .int .i64 c], .int .i64 t, .slice (some ⟨g, off, none⟩) 4 cap] w (RowSaid (rs) w) := by
  obtain ⟨i0, hi0, hz0, hz1, hz2⟩ := info_parts info_int
  have HS := Lib.hid (nums_cells ((h.kept ((below1 w (.cells #[.int .i64 o, .int .i64 a, .int .i64 b, .int .i64 c] 33)).mono hB)).kept (Below.alloc (Below.refl _ _) (by simp; omega) (.cells #[] 3))))
  have HCP := Lib.hid (fun (w2 : World) (v2 : Value) => @copied B w w2 o a b c rs g off v2 hl h hB)
  have HME := Lib.hid (made_empty (base := w.heap.size) (w.alloc (.cells #[.int .i64 o, .int .i64 a, .int .i64 b, .int .i64 c] 33)) (w.heap.size + 1) (by simp) (by simp))
  have HBS := Lib.hid (show w.heap.size ≤ ((w.alloc (.cells #[.int .i64 o, .int .i64 a, .int .i64 b, .int .i64 c] 33)).alloc (.cells #[] 3)).heap.size by simp; omega)
  have HML := Lib.hid (show (rs.map (Value.int .i64)).length = 4 * 1 by simp [hl])
  clear h hl
  have hdone : True := trivial
  go_enter Try.func96, Try.ntmps96
  go_wp2_with (at_builtin; go_loud (refine wpList_append_own_at _ rfl (.tmp 8) (.tmp 9) 25 rfl w.heap.size 3 i0 (.int .i64 0) 1 8 Try.underlying25 hi0 hz0 hz1 hz2 rfl (by decide) _ 0 [] rfl HME.out ⟨g, off, none⟩ 4 cap (rs.map (.int .i64)) rfl HML.out HS.out (by intro u hu; obtain ⟨x, _, rfl⟩ := List.mem_map.1 hu; rfl) (by unfold maxLen; omega) (by omega) HBS.out ?_); intro v2 w2 hown2 hgrow2 _ hat2; go_loud (obtain ⟨gO, cO, rfl, hO, hC⟩ := HCP.out w2 v2 hown2 hgrow2 hat2); have HO := Lib.hid hO; have HC := Lib.hid hC; have i0' := hC.i0; have i1' := hC.i1; have i2' := hC.i2; have i3' := hC.i3; have hgl := hC.gl; obtain ⟨hn1, hn2⟩ := hC.ne; clear hown2 hgrow2 hat2 hO hC; have hdone2 : True := trivial)
  go_ret
  exact ⟨_, rfl, HO.out, HC.out.bel⟩

/-- l10Apply of a valid instruction. -/
theorem sApply_any (B : Nat) (w : World) (x : I4) (s t : Int) (rs : List Int) (ra : Option Addr) (cap : Nat) (hx : insOk x.o x.a x.b x.c s = true) (hl : rs.length = 4) (h : Nums B w ra rs) (hB : B ≤ w.heap.size) :
    Calls Try.prog 96 #[.agg #[.int .i64 x.o, .int .i64 x.a, .int .i64 x.b, .int .i64 x.c], .int .i64 t, .slice ra 4 cap] w (RowSaid (applyR x t rs) w) := by
  obtain ⟨o, a, b, c⟩ := x
  obtain ⟨fa, _, _, fb, fc⟩ := ok_fields hx
  simp only at fa fb fc ⊢
  obtain ⟨g, off, rfl, _, _⟩ := h.2 0 (by omega)
  have key : ∀ k : Int, 0 ≤ k ∧ k ≤ 3 → ∃ n : Nat, k = n ∧ n < 4 := fun k hk => ⟨k.toNat, by omega, by omega⟩
  unfold applyR valR
  simp only
  by_cases h1 : o = 1
  · subst h1
    obtain ⟨a, rfl, ha⟩ := key a (fa (by omega) (by omega))
    rw [if_pos rfl]
    exact sApply1_any B w a b c t rs g off cap hl ha h hB
  rw [if_neg h1]
  by_cases h2 : o = 2
  · subst h2
    obtain ⟨a, rfl, ha⟩ := key a (fa (by omega) (by omega))
    obtain ⟨b, rfl, hb⟩ := key b (fb (by omega) (by omega))
    rw [if_pos rfl]
    exact sApply2_any B w a b c t rs g off cap hl ha hb h hB
  rw [if_neg h2]
  by_cases h3 : o = 3
  · subst h3
    obtain ⟨a, rfl, ha⟩ := key a (fa (by omega) (by omega))
    obtain ⟨b, rfl, hb⟩ := key b (fb (by omega) (by omega))
    obtain ⟨c, rfl, hc⟩ := key c (fc (by omega) (by omega))
    rw [if_pos rfl]
    exact sApply3_any B w a b c t rs g off cap hl ha hb hc h hB
  rw [if_neg h3]
  by_cases h4 : o = 4
  · subst h4
    obtain ⟨a, rfl, ha⟩ := key a (fa (by omega) (by omega))
    obtain ⟨b, rfl, hb⟩ := key b (fb (by omega) (by omega))
    obtain ⟨c, rfl, hc⟩ := key c (fc (by omega) (by omega))
    rw [if_pos rfl]
    exact sApply4_any B w a b c t rs g off cap hl ha hb hc h hB
  rw [if_neg h4]
  by_cases h5 : o = 5
  · subst h5
    obtain ⟨a, rfl, ha⟩ := key a (fa (by omega) (by omega))
    obtain ⟨b, rfl, hb⟩ := key b (fb (by omega) (by omega))
    obtain ⟨c, rfl, hc⟩ := key c (fc (by omega) (by omega))
    rw [if_pos rfl]
    exact sApply5_any B w a b c t rs g off cap hl ha hb hc h hB
  rw [if_neg h5]
  by_cases h6 : o = 6
  · subst h6
    obtain ⟨a, rfl, ha⟩ := key a (fa (by omega) (by omega))
    obtain ⟨b, rfl, hb⟩ := key b (fb (by omega) (by omega))
    obtain ⟨c, rfl, hc⟩ := key c (fc (by omega) (by omega))
    rw [if_pos rfl]
    exact sApply6_any B w a b c t rs g off cap hl ha hb hc h hB
  rw [if_neg h6]
  by_cases h7 : o = 7
  · subst h7
    obtain ⟨a, rfl, ha⟩ := key a (fa (by omega) (by omega))
    obtain ⟨b, rfl, hb⟩ := key b (fb (by omega) (by omega))
    obtain ⟨c, rfl, hc⟩ := key c (fc (by omega) (by omega))
    rw [if_pos rfl]
    exact sApply7_any B w a b c t rs g off cap hl ha hb hc h hB
  rw [if_neg h7]
  by_cases h8 : o = 8
  · subst h8
    obtain ⟨a, rfl, ha⟩ := key a (fa (by omega) (by omega))
    rw [if_pos rfl]
    exact sApply8_any B w a b c t rs g off cap hl ha h hB
  rw [if_neg h8]
  by_cases h9 : o = 9
  · subst h9
    obtain ⟨a, rfl, ha⟩ := key a (fa (by omega) (by omega))
    obtain ⟨b, rfl, hb⟩ := key b (fb (by omega) (by omega))
    obtain ⟨c, rfl, hc⟩ := key c (fc (by omega) (by omega))
    rw [if_pos rfl]
    by_cases hz : rg rs (c : Int) = 0
    · rw [if_pos hz]
      exact sApply9no_any B w a b c t rs g off cap hl ha hb hc hz h hB
    · rw [if_neg hz]
      exact sApply9yes_any B w a b c t rs g off cap hl ha hb hc hz h hB
  rw [if_neg h9]
  exact sApplyNo_any B w o a b c t rs g off cap hl (by simpa using h1) (by simpa using h2) (by simpa using h3) (by simpa using h4) (by simpa using h5) (by simpa using h6) (by simpa using h7) (by simpa using h8) (by simpa using h9) h hB

set_option maxRecDepth 100000 in
set_option maxHeartbeats 1000000 in
theorem sNextPc_any (B : Nat) (w : World) (a : Option Addr) (p : List I4) (cap k : Nat) (hp : progOk p = true) (hk : k < p.length) (h : Nums B w a (flat p)) (B2 : Nat) (ra : Option Addr) (rs : List Int) (rc : Nat) (hl : rs.length = 4) (h2 : Nums B2 w ra rs) :
    Calls Try.prog 95 #[.slice a p.length cap, .int .i64 k, .slice ra 4 rc] w (fun e w' => e = .returned (.int .i64 (nextR p k p[k] rs)) ∧ w = w') := by
  have h32 := progOk_len hp
  have hok := progOk_at hp hk
  obtain ⟨g, off, rfl, hg, c0, c1, c2, c3⟩ := h.at4 k hk
  have e : nextR p k p[k] rs = if p[k].o = 12 then (p.length : Int) else if p[k].o = 11 then p[k].b else if p[k].o = 10 ∧ rg rs p[k].a = 0 then p[k].b else (k : Int) + 1 := rfl
  rw [e]
  clear e h
  generalize p[k] = x at *
  obtain ⟨o, xa, b, c⟩ := x
  obtain ⟨_, fa, _, _, _⟩ := ok_fields hok
  simp only at c0 c1 c2 c3 fa ⊢
  have k0 : (0 : Int) ≤ (k : Int) := Int.natCast_nonneg _
  have k1 : (k : Int) < (p.length : Int) := by omega
  by_cases h12 : o = 12
  · rw [if_pos h12]
    subst h12
    clear fa hok h2
    go_enter Try.func95, Try.ntmps95
    go_wp2_with fail
    go_ret
    exact ⟨rfl, rfl⟩
  rw [if_neg h12]
  by_cases h11 : o = 11
  · rw [if_pos h11]
    subst h11
    clear fa hok h2
    go_enter Try.func95, Try.ntmps95
    go_wp2_with fail
    go_ret
    exact ⟨rfl, rfl⟩
  rw [if_neg h11]
  by_cases h10 : o = 10
  · subst h10
    obtain ⟨ha0, ha3⟩ := fa rfl
    obtain ⟨xa, rfl⟩ := Int.eq_ofNat_of_zero_le ha0
    obtain ⟨g2, off2, rfl, _, cr⟩ := h2.2 xa (by omega)
    have er : rg rs (xa : Int) = rs[xa]'(by omega) := by unfold rg; rw [Int.toNat_natCast, List.getD_eq_getElem?_getD, List.getElem?_eq_getElem (by omega)]; rfl
    rw [← er] at cr
    have xa4 : (xa : Int) < 4 := by omega
    clear h2 hok fa er
    by_cases hz : rg rs (xa : Int) = 0
    · rw [if_pos ⟨rfl, hz⟩]
      rw [hz] at cr
      clear hz
      go_enter Try.func95, Try.ntmps95
      go_wp2_with fail
      go_ret
      exact ⟨rfl, rfl⟩
    · rw [if_neg (fun e => hz e.2)]
      have hz0 : (rg rs (xa : Int) == 0) = false := by simpa using hz
      generalize rg rs (xa : Int) = z at *
      clear hz
      go_enter Try.func95, Try.ntmps95
      go_wp2_with fail
      go_ret
      exact ⟨rfl, rfl⟩
  · rw [if_neg (fun e => h10 e.1)]
    have e12 : (o == 12) = false := by simpa using h12
    have e11 : (o == 11) = false := by simpa using h11
    have e10 : (o == 10) = false := by simpa using h10
    clear h12 h11 h10 fa hok h2
    go_enter Try.func95, Try.ntmps95
    go_wp2_with fail
    go_ret
    exact ⟨rfl, rfl⟩

end Go.Proofs.Ytmiopbpahkgmbaa
