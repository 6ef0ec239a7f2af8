/- Lanes: what the exact laws do with them: a copy, the comparison, the marks. -/
import Derived.Test.YtmiopbpahkgmbaaKept
import Derived.Test.YtmiopbpahkgmbaaBools
namespace Go.Proofs.Ytmiopbpahkgmbaa
open Go.RowKit Go

theorem szI_any (a : Option Addr) (n cap : Nat) (left : Int) (w : World) (h0 : 0 ≤ left) (h1 : left ≤ 1048576) (hn : n ≤ 9223372036854775807) :
    Calls Try.prog 69 #[.slice a n cap, .int .i64 left] w (fun e w' => e = .returned (.int .i64 (if left < (n : Int) then -1 else left - n)) ∧ w = w') := by
  by_cases hlt : left < (n : Int)
  · rw [if_pos hlt]
    go_enter Try.func69, Try.ntmps69
    go_wp2_with fail
    go_ret
    exact ⟨rfl, rfl⟩
  · rw [if_neg hlt]
    go_enter Try.func69, Try.ntmps69
    go_wp2_with fail
    go_ret
    exact ⟨rfl, rfl⟩

theorem szLane_any (t pc : Int) (a : Option Addr) (n cap : Nat) (left : Int) (w : World) (h0 : 0 ≤ left) (h1 : left ≤ 1048576) (hn : n ≤ 9223372036854775807) :
    Calls Try.prog 31 #[.agg #[.int .i64 t, .int .i64 pc, .slice a n cap], .int .i64 left] w (fun e w' => e = .returned (.int .i64 (if left < (n : Int) then -1 else left - n)) ∧ Below w.heap.size w w') := by
  have HS := fun W => szI_any a n cap left W h0 h1 hn
  by_cases hlt : left < (n : Int)
  · rw [if_pos hlt] at HS ⊢
    replace HS := Lib.hid HS
    go_enter Try.func31, Try.ntmps31
    go_wp2_with fail
    refine (HS.out _).mono ?_
    rintro e w' ⟨rfl, rfl⟩
    go_wp2_with fail
    go_ret
    exact ⟨rfl, below1 _ _⟩
  · rw [if_neg hlt] at HS ⊢
    replace HS := Lib.hid HS
    go_enter Try.func31, Try.ntmps31
    go_wp2_with fail
    refine (HS.out _).mono ?_
    rintro e w' ⟨rfl, rfl⟩
    go_wp2_with fail
    go_ret
    exact ⟨rfl, below1 _ _⟩

set_option maxRecDepth 100000 in
set_option maxHeartbeats 1000000 in
theorem eqLane_same (t pc : Int) (a1 a2 : Option Addr) (B1 B2 : Nat) (c1 c2 : Nat) (xs : List Int) (w : World) (hl : xs.length ≤ 10000000) (h1 : Nums B1 w a1 xs) (h2 : Nums B2 w a2 xs) (hB1 : B1 ≤ w.heap.size) (hB2 : B2 ≤ w.heap.size) :
    Calls Try.prog 35 #[.agg #[.int .i64 t, .int .i64 pc, .slice a1 xs.length c1], .agg #[.int .i64 t, .int .i64 pc, .slice a2 xs.length c2]] w (Said (.bool true) w) := by
  have hb := below2 w (.cells #[.int .i64 t, .int .i64 pc, .slice a1 xs.length c1] 27) (.cells #[.int .i64 t, .int .i64 pc, .slice a2 xs.length c2] 27)
  have HE := Lib.hid (eqI_same a1 a2 B1 B2 c1 c2 xs _ hl (h1.kept (hb.mono hB1)) (h2.kept (hb.mono hB2)))
  have HB := Lib.hid hb
  clear h1 h2 hb
  go_enter Try.func35, Try.ntmps35
  go_wp2_with fail
  refine HE.out.mono ?_
  rintro e w' ⟨rfl, m, rfl⟩
  go_wp2_with fail
  go_ret
  exact ⟨rfl, HB.out.trans (below_drewN _ _ _)⟩

set_option maxRecDepth 100000 in
set_option maxHeartbeats 1000000 in
theorem markLane_any (t pc : Int) (v : Value) (k base : Nat) (xs : List Int) (w : World) (hk2 : k ≤ 100000000) (hn2 : xs.length ≤ 10000000) (h : Own base w v xs) :
    Calls Try.prog 38 #[.agg #[.int .i64 t, .int .i64 pc, v], .int .i64 k] w (fun e w' => e = .returned (.int .i64 (k + xs.length : Nat)) ∧ Own base w' v (marksI k xs.length) ∧ w.grownBy w' v.ownBlock) := by
  have hf := h.form
  have HM := Lib.hid (fun W hW => markI_any v k base xs W hk2 hn2 hW)
  have H := Lib.hid h
  obtain ⟨a, c, rfl⟩ := hf
  clear h
  go_enter Try.func38, Try.ntmps38
  go_wp2_with fail
  refine (HM.out _ (H.out.alloc _)).mono ?_
  rintro e w1 ⟨rfl, o1, g1⟩
  have O1 := Lib.hid o1
  have G1 := Lib.hid (grownBy_trans (World.grownBy_alloc w _ _) g1)
  clear o1 g1
  go_wp2_with fail
  go_ret
  exact ⟨rfl, O1.out, G1.out⟩

set_option maxRecDepth 100000 in
set_option maxHeartbeats 1000000 in
theorem heldLane_any (t pc : Int) (v : Value) (k n base : Nat) (w : World) (hk2 : k ≤ 100000000) (hn2 : n ≤ 10000000) (h : Own base w v (marksI k n)) :
    Calls Try.prog 39 #[.agg #[.int .i64 t, .int .i64 pc, v], .int .i64 k] w (Said (.int .i64 (k + n : Nat)) w) := by
  have hf := h.form
  have HM := Lib.hid (fun W hW => heldI_any v k n base W hk2 hn2 hW)
  have H := Lib.hid h
  obtain ⟨a, c, rfl⟩ := hf
  clear h
  go_enter Try.func39, Try.ntmps39
  go_wp2_with fail
  refine (HM.out _ (H.out.alloc _)).mono ?_
  rintro e w1 ⟨rfl, m, rfl⟩
  have hd : decide (((k + n : Nat) : Int) < 0) = false := by simp; omega
  go_wp2_with fail
  go_ret
  exact ⟨rfl, (below1 _ _).trans (below_drewN _ _ _)⟩

set_option maxRecDepth 100000 in
set_option maxHeartbeats 2000000 in
theorem toLane_any (B : Nat) (w : World) (t pc : Int) (a : Option Addr) (xs : List Int) (cap : Nat) (hl : xs.length ≤ 1048576) (h : Nums B w a xs) (hB : B ≤ w.heap.size) :
    Calls Try.prog 34 #[.agg #[.int .i64 t, .int .i64 pc, .slice a xs.length cap]] w (fun e w' => ∃ g : Nat, e = .returned (.agg #[.int .i64 t, .int .i64 pc, .slice (some ⟨g, 0, none⟩) xs.length xs.length]) ∧ Own w.heap.size w' (.slice (some ⟨g, 0, none⟩) xs.length xs.length) xs ∧ Below w.heap.size w w') := by
  obtain ⟨w0, hw0⟩ : ∃ w0, w0 = ((w.alloc (.cells #[.int .i64 t, .int .i64 pc, .slice a xs.length cap] 50)).alloc (.cells #[.int .i64 0, .int .i64 0, .slice none 0 0] 27)).alloc (.cells #[.int .i64 t, .int .i64 pc, .slice none 0 0] 27) := ⟨_, rfl⟩
  have hb : Below w.heap.size w w0 := by rw [hw0]; exact below3 _ _ _ _
  have hsz : w0.heap.size = w.heap.size + 3 := by rw [hw0]; simp
  have HT := Lib.hid (toIntS_any B w0 a xs cap hl (h.kept (hb.mono hB)) (Nat.le_trans hB hb.size))
  have X0 : Box 50 w0 w.heap.size #[.int .i64 t, .int .i64 pc, .slice a xs.length cap] := by rw [hw0]; exact ((Box.new _ w _).alloc _).alloc _
  have X1 : Box 27 w0 (w.heap.size + 1) #[.int .i64 0, .int .i64 0, .slice none 0 0] := by
    rw [hw0]
    have := (Box.new 27 (w.alloc (.cells #[.int .i64 t, .int .i64 pc, .slice a xs.length cap] 50)) #[.int .i64 0, .int .i64 0, .slice none 0 0]).alloc (.cells #[.int .i64 t, .int .i64 pc, .slice none 0 0] 27)
    simpa using this
  have X2 : Box 27 w0 (w.heap.size + 1 + 1) #[.int .i64 t, .int .i64 pc, .slice none 0 0] := by
    rw [hw0]
    have := Box.new 27 ((w.alloc (.cells #[.int .i64 t, .int .i64 pc, .slice a xs.length cap] 50)).alloc (.cells #[.int .i64 0, .int .i64 0, .slice none 0 0] 27)) #[.int .i64 t, .int .i64 pc, .slice none 0 0]
    simpa using this
  have x2 := X0.cell 2
  simp at x2
  have HB := Lib.hid hb
  have HX1 := Lib.hid X1
  have HX2 := Lib.hid X2
  have hl0 := X0.lt
  clear h hb X0 X1 X2
  go_enter Try.func34, Try.ntmps34
  go_upto_region 4 with fail
  rw [← hw0]
  clear hw0
  go_wp2_with fail
  refine HT.out.mono ?_
  rintro e w1 ⟨rfl, o1, b1⟩
  have y0 := (HX1.out.below b1).cell 0; have y1 := (HX1.out.below b1).cell 1; have y2 := (HX1.out.below b1).cell 2
  have yf := (HX1.out.below b1).frozen; have yl := (HX1.out.below b1).lt
  have z0 := (HX2.out.below b1).cell 0; have z1 := (HX2.out.below b1).cell 1; have z2 := (HX2.out.below b1).cell 2
  have zf := (HX2.out.below b1).frozen; have zl := (HX2.out.below b1).lt
  simp at y0 y1 y2 z0 z1 z2
  have O1 := Lib.hid o1
  have B1 := Lib.hid (HB.out.trans (b1.mono HB.out.size))
  clear o1 b1
  go_wp2_with fail
  exact bodyPost_ret (v := .agg #[.int .i64 t, .int .i64 pc, .slice (some ⟨w0.heap.size, 0, none⟩) xs.length xs.length]) (by simp [results, Try.results34, go_sem, y0, y1, y2]) rfl
    ⟨w0.heap.size, rfl, (((((O1.out.setAway _ _ (by show w.heap.size + 1 + 1 < w0.heap.size; omega)).setAway _ _ (by show w.heap.size + 1 < w0.heap.size; omega)).setAway _ _ (by show w.heap.size + 1 < w0.heap.size; omega)).setAway _ _ (by show w.heap.size + 1 < w0.heap.size; omega))).lower (by omega),
      (((B1.out.setCell (by show w.heap.size ≤ w.heap.size + 1 + 1; omega) _).setCell (by show w.heap.size ≤ w.heap.size + 1; omega) _).setCell (by show w.heap.size ≤ w.heap.size + 1; omega) _).setCell (by show w.heap.size ≤ w.heap.size + 1; omega) _⟩

end Go.Proofs.Ytmiopbpahkgmbaa
