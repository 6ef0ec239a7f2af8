/- Drawn lanes: what is drawn is valid. -/
import Derived.Test.YtmiopbpahkgmbaaWild
import Derived.Test.YtmiopbpahkgmbaaDrawNums
import Derived.Test.YtmiopbpahkgmbaaLaneR
import Derived.Test.YtmiopbpahkgmbaaSep
namespace Go.Proofs.Ytmiopbpahkgmbaa
open Go.RowKit Go

theorem OwnP.setAway {B n : Nat} {w : World} {v : Value} {xs : List Int} (h : OwnP B w v n xs) (p : Addr) (u : Value) (hp : p.block < B) : OwnP B (w.setCell p u) v n xs := by
  refine World.ownsRow.kept h (grownBy_setCell w p u) ?_
  cases hv : v.ownBlock with
  | none => exact .inl rfl
  | some g =>
    refine .inr fun e => ?_
    have := (World.ownsRow.lt h g hv).1
    cases e
    omega
theorem set3_ownP {B B' b n : Nat} {w : World} {v : Value} {xs : List Int} {x y z : Value} (h : OwnP B w v n xs) (hb : b < B) (hB : B' ≤ B) : OwnP B' (((w.setCell ⟨b, 0, none⟩ x).setCell ⟨b, 1, none⟩ y).setCell ⟨b, 2, none⟩ z) v n xs :=
  OwnP.base (((h.setAway _ _ hb).setAway _ _ hb).setAway _ _ hb) hB

/-- A drawn row of words: the cursor stands on. -/
def WordsSaid (base B n : Nat) (w : World) (e : Ending) (w' : World) : Prop :=
  ∃ (a : Option Addr) (c : Nat) (xs : List Int), xs.length = n ∧ (∀ x ∈ xs, wordP x) ∧ e = .returned (.slice a n c) ∧ Own w.heap.size w' (.slice a n c) xs ∧ Cur base w' B ∧ w.grownBy w' (some B)

set_option maxRecDepth 100000 in
set_option maxHeartbeats 1000000 in
theorem words_any {base B : Nat} (w : World) (n : Nat) (hn : n ≤ 1000) (hc : Cur base w B) (hbw : base ≤ w.heap.size) : Calls Try.prog 81 #[.pointer (some ⟨B, 0, none⟩), .int .i64 n] w (WordsSaid base B n w) := by
  obtain ⟨i0, hi0, hz0, hz1, hz2⟩ := info_parts info_int
  have hlt := hc.lt
  have HC := Lib.hid (hc.alloc (.cells #[] 3))
  have HO := Lib.hid (World.ownsRow_made w #[] 0 (Nat.le_refl _) (by unfold maxLen; omega) rfl : (w.alloc (.cells #[] 3)).ownsRow w.heap.size 3 1 (.slice (some ⟨w.heap.size, 0, none⟩) 0 0) 0 [])
  clear hc
  go_enter Try.func81, Try.ntmps81
  go_wp2_with fail
  go_loopw [5, 6] (fun v i wr => NumsRel wordP base B w n v i wr) (fun _ i _ => n - (intOf i).toNat)
  case atStart => exact ⟨[], by simp, by simp, rfl, HO.out, HC.out, World.grownBy_alloc _ _ _, hlt⟩
  case round =>
    obtain ⟨xs, hk, hP, rfl, hown, hcr, hw, _⟩ := hrel
    have HP := Lib.hid hP
    clear hP
    by_cases hkn : xs.length < n
    · go_wp2_with fail
      refine (word_any _ hcr).mono ?_
      rintro e w1 ⟨x, hx, rfl, hc1, hg1⟩
      have hown1 : Own w.heap.size w1 _ xs := World.ownsRow.kept hown hg1 (own_neB hown hlt)
      have hs1 : w.heap.size ≤ w1.heap.size := Nat.le_trans hw.size hg1.size
      go_wp2_with (at_builtin; refine wpList_append_own _ rfl _ _ 25 rfl w.heap.size 3 i0 (.int .i64 0) 1 8 Try.underlying25 hi0 hz0 hz1 hz2 rfl (by decide) _ _ _ rfl (World.ownsRow.alloc hown1 _) ⟨w1.heap.size, 0, none⟩ 1 1 [.int .i64 x] rfl rfl (cell_one_new _ _ _) (by simp [Value.oneCell']) (by unfold maxLen; omega) (by omega) (by simp; omega) ?_; intro v' w2 hown2 hgrow _)
      go_roundw
      case rel => exact nums_rel hkn HP.out hx hw hlt hbw hg1 hc1 hown1 hown2 hgrow
      case measure => simp [intOf]; omega
    · obtain ⟨a, c, rfl⟩ := Own.form hown
      obtain rfl : n = xs.length := by omega
      go_wp2_with fail
      go_ret
      exact ⟨a, c, xs, rfl, HP.out, rfl, hown, hcr, hw⟩

/-- A drawn lane of a program with n instructions. -/
def CaseSaid (base B n : Nat) (w : World) (e : Ending) (w' : World) : Prop :=
  ∃ (t pc : Int) (a : Option Addr) (c : Nat) (xs : List Int), (0 ≤ t ∧ t ≤ 23) ∧ (0 ≤ pc ∧ pc ≤ (n : Int)) ∧ xs.length = 4 ∧ (∀ x ∈ xs, wordP x) ∧ e = .returned (.agg #[.int .i64 t, .int .i64 pc, .slice a 4 c]) ∧ Own w.heap.size w' (.slice a 4 c) xs ∧ Cur base w' B ∧ w.grownBy w' (some B)

set_option maxRecDepth 100000 in
set_option maxHeartbeats 1000000 in
theorem case_any {base B : Nat} (w : World) (a : Option Addr) (n cap : Nat) (hn : n ≤ 1000) (hc : Cur base w B) (hbw : base ≤ w.heap.size) : Calls Try.prog 50 #[.pointer (some ⟨B, 0, none⟩), .slice a n cap] w (CaseSaid base B n w) := by
  have hlt := hc.lt
  have hcA := hc.alloc (.cells #[.int .i64 0, .int .i64 0, .slice none 0 0] 27)
  have HX := Lib.hid (Box.new 27 w #[.int .i64 0, .int .i64 0, .slice none 0 0])
  have hne : some B ≠ some w.heap.size := by intro e; cases e; omega
  have HG := Lib.hid (World.grownBy_alloc w (.cells #[.int .i64 0, .int .i64 0, .slice none 0 0] 27) (some B))
  have HCA := Lib.hid hcA
  clear hc hcA
  go_enter Try.func50, Try.ntmps50
  go_wp2_with fail
  refine (below_any _ 24 (by omega) HCA.out).mono ?_
  rintro e w1 ⟨t, ⟨ht0, _, ht1⟩, rfl, hc1, hg1⟩
  have ht1 := ht1 (by omega)
  have X1 := Lib.hid (HX.out.grown hg1 hne)
  have G1 := Lib.hid (grownBy_trans HG.out hg1)
  have C1 := Lib.hid hc1
  clear hc1 hg1
  go_wp2_with fail
  refine (below_any _ ((n : Int) + 1) (by omega) C1.out).mono ?_
  rintro e w2 ⟨pc, ⟨hp0, _, hp1⟩, rfl, hc2, hg2⟩
  have hp1 := hp1 (by omega)
  have X2 := Lib.hid (X1.out.grown hg2 hne)
  have G2 := Lib.hid (grownBy_trans G1.out hg2)
  have s2 : w.heap.size < w2.heap.size := X2.out.lt
  have C2 := Lib.hid hc2
  clear hc2 hg2
  go_wp2_with fail
  refine (words_any w2 4 (by omega) C2.out (by omega)).mono ?_
  rintro e w3 ⟨a3, c3, xs, hx4, hxw, rfl, o3, hc3, hg3⟩
  have X3 := X2.out.grown hg3 hne
  have G3 := Lib.hid (grownBy_trans G2.out hg3)
  obtain ⟨⟨r0, r1, r2⟩, rf, rl⟩ := X3.three
  have O3 := Lib.hid o3
  have C3 := Lib.hid hc3
  have HXW := Lib.hid hxw
  clear o3 hc3 hg3 X3 hxw
  go_wp2_with fail
  exact bodyPost_ret (v := .agg #[.int .i64 t, .int .i64 pc, .slice a3 4 c3]) (by simp [results, Try.results50, go_sem, r0, r1, r2]) rfl
    ⟨t, pc, a3, c3, xs, ⟨ht0, by omega⟩, ⟨hp0, by omega⟩, hx4, HXW.out, rfl, Own.lower (((O3.out.setAway _ _ s2).setAway _ _ s2).setAway _ _ s2) (by omega),
      C3.out.kept (grownBy_trans (grownBy_trans (grownBy_setCell _ ⟨w.heap.size, 0, none⟩ _) (grownBy_setCell _ ⟨w.heap.size, 1, none⟩ _)) (grownBy_setCell _ ⟨w.heap.size, 2, none⟩ _)) (fun k e => by cases e; exact ⟨hbw, by show w.heap.size ≠ B; omega⟩),
      grownBy_new G3.out (grownBy_trans (grownBy_trans (grownBy_setCell _ ⟨w.heap.size, 0, none⟩ _) (grownBy_setCell _ ⟨w.heap.size, 1, none⟩ _)) (grownBy_setCell _ ⟨w.heap.size, 2, none⟩ _)) (Nat.le_refl _)⟩

/-- A drawn program and a drawn lane of it. -/
def DrawnL (w : World) (e : Ending) (w' : World) : Prop :=
  ∃ (a : Option Addr) (cap : Nat) (p : List I4) (t pc : Int) (ra : Option Addr) (rc : Nat) (rs : List Int), e = .returned (.tuple #[.slice a p.length cap, .agg #[.int .i64 t, .int .i64 pc, .slice ra 4 rc]]) ∧
    (laneOk p t pc rs = true ∧ rs.length = 4 ∧ p.length ≤ 8 ∧ p.all locI = true) ∧ OwnP w.heap.size w' (.slice a p.length cap) p.length (flat p) ∧ Own w.heap.size w' (.slice ra 4 rc) rs ∧ Below w.heap.size w w'

set_option maxRecDepth 100000 in
set_option maxHeartbeats 1000000 in
theorem drawLane_any (w : World) (a : Option Addr) (len cap : Nat) (hl : len ≤ maxLen) (hb : Bytes w.heap.size w a len) : Calls Try.prog 13 #[.slice a len cap] w (DrawnL w) := by
  have hbx := below1 w (.cells #[.int .i64 0, .int .i64 0, .slice none 0 0] 27)
  have hbN : Bytes (w.alloc (.cells #[.int .i64 0, .int .i64 0, .slice none 0 0] 27)).heap.size (w.alloc (.cells #[.int .i64 0, .int .i64 0, .slice none 0 0] 27)) a len := fun j hj => by
    obtain ⟨b, off, x, e, hlt, hc, h0, h1⟩ := hb j hj
    exact ⟨b, off, x, e, Nat.lt_of_lt_of_le hlt hbx.size, by rw [hbx.cell (p := ⟨b, off + j, none⟩) hlt]; exact hc, h0, h1⟩
  have h1 := Lib.hid (new_any _ a len cap hl hbN)
  have HX := Lib.hid (Box.new 27 w #[.int .i64 0, .int .i64 0, .slice none 0 0])
  have HBX := Lib.hid hbx
  have hwz : w.heap.size < (w.alloc (.cells #[.int .i64 0, .int .i64 0, .slice none 0 0] 27)).heap.size := by simp
  obtain ⟨w0, hw0⟩ : ∃ w0, w0 = w.alloc (.cells #[.int .i64 0, .int .i64 0, .slice none 0 0] 27) := ⟨_, rfl⟩
  rw [← hw0] at h1 HX HBX hwz
  clear hl hb hbx hbN
  go_enter Try.func13, Try.ntmps13
  go_upto_region 1 with fail
  rw [← hw0]
  clear hw0
  go_wp2_with fail
  refine h1.out.mono ?_
  rintro e w1 ⟨B, rfl, hc, b1⟩
  have hB : w0.heap.size ≤ B := hc.1
  have X1 := Lib.hid (HX.out.below b1)
  have hb1 := Below.trans HBX.out (b1.mono (Nat.le_of_lt hwz))
  have hs1 : w0.heap.size ≤ w1.heap.size := b1.size
  go_wp2_with fail
  refine (wild_any w0.heap.size B w0 w1 hc b1).mono ?_
  rintro e w2 ⟨v, p, rfl, hp, h8, hc2, ho, hb2, hloc⟩
  obtain ⟨a2, cap2, rfl⟩ := OwnP.form ho
  have X2 := Lib.hid (HX.out.below hb2)
  have HB2 := Lib.hid (Below.trans HBX.out (hb2.mono (Nat.le_of_lt hwz)))
  have hs2 : w0.heap.size ≤ w2.heap.size := hb2.size
  have HO := Lib.hid ho
  have HC2 := Lib.hid hc2
  have HP := Lib.hid hp
  have HLC := Lib.hid hloc
  clear ho hc2 hb1 b1 hc X1 hb2 hp hloc
  go_wp2_with fail
  refine (case_any w2 a2 p.length cap2 (by omega) HC2.out hs2).mono ?_
  rintro e w3 ⟨t, pc, a3, c3, xs, ht, hpc, hx4, hxw, rfl, o3, hc3, hg3⟩
  have hne : some B ≠ some w.heap.size := by intro e; cases e; omega
  have X3 := X2.out.grown hg3 hne
  obtain ⟨⟨r0, r1, r2⟩, rf, rl⟩ := X3.three
  have O3 := Lib.hid o3
  have HO3 := Lib.hid (show OwnP (B + 1) w3 (.slice a2 p.length cap2) p.length (flat p) from World.ownsRow.kept HO.out hg3 (by
    cases hv : (Value.slice a2 p.length cap2).ownBlock with
    | none => exact .inl rfl
    | some g => exact .inr (fun e => by cases e; have := (World.ownsRow.lt HO.out _ hv).1; omega)))
  have HB3 := Lib.hid (HB2.out.grown hg3 (by omega) (fun k e => by cases e; omega))
  have HOK := Lib.hid (show laneOk p t pc xs = true from laneOk_iff.2 ⟨HP.out, ht, hpc, hx4, List.all_eq_true.2 fun x hx => isW_mk (hxw x hx).1 (hxw x hx).2⟩)
  clear o3 hc3 hg3 X3 hxw ht hpc
  go_wp2_with fail
  exact bodyPost_ret (v := .tuple #[.slice a2 p.length cap2, .agg #[.int .i64 t, .int .i64 pc, .slice a3 4 c3]]) (by simp [results, Try.results13, go_sem, r0, r1, r2]) rfl
    ⟨a2, cap2, p, t, pc, a3, c3, xs, rfl, ⟨HOK.out, hx4, h8, HLC.out⟩, set3_ownP HO3.out (by omega) (by omega),
      Own.lower (((O3.out.setAway _ _ (by show w.heap.size < w2.heap.size; omega)).setAway _ _ (by show w.heap.size < w2.heap.size; omega)).setAway _ _ (by show w.heap.size < w2.heap.size; omega)) (by omega),
      ((HB3.out.setCell (Nat.le_refl _) _).setCell (Nat.le_refl _) _).setCell (Nat.le_refl _) _⟩

end Go.Proofs.Ytmiopbpahkgmbaa
