/- What the exact laws do with a row of texts: compare two, write marks into one, look whether they are held. -/
import Derived.Test.YtceicbncnhmkoaaDoorFields
import Derived.Test.YtceicbncnhmkoaaDoorFmtRel
import Derived.Deep.RegionHeld3
import Derived.WalkSpells
namespace Go.Proofs.YtceicbncnhmkoaaDoor
open Go.RowKit Go

/-- The mark of k. -/
def mk (k : Nat) : ByteArray := ⟨#[109]⟩ ++ ⟨(Lib.itoa k).toArray⟩
def marks (k n : Nat) : List ByteArray := (List.range n).map fun i => mk (k + i)

theorem fig48 (m : Nat) : figOf ((m : Int) % 10) = 48 + (m : Int) % 10 := by unfold figOf; rw [if_pos (by omega)]

set_option maxHeartbeats 400000 in
theorem markText_any (n : Nat) (w : World) (h0 : 0 < n) (h1 : n ≤ 9223372036854775807) : Calls Tryd.prog 50 #[.int .i64 n] w (fun e w' => e = .returned (.string (mk n)) ∧ Below w.heap.size w w') := by
  have b1 : decide ((n : Int) ≤ 0) = false := by simp; omega
  go_enter Tryd.func50, Tryd.ntmps50
  go_wp2_with fail
  go_loopw [0, 3] (fun i v wr => ∃ (m : Nat) (s : ByteArray), m ≤ n ∧ i = .int .i64 m ∧ v = .string s ∧ FmtRel n m s ∧ Below w.heap.size w wr) (fun i _ _ => (intOf i).toNat)
  case atStart => exact ⟨n, ByteArray.empty, Nat.le_refl _, rfl, rfl, by simp [FmtRel], Below.refl _ _⟩
  case round =>
    obtain ⟨m, s, hm, rfl, rfl, hf, hbel⟩ := hrel
    have HF := Lib.hid hf
    clear hf
    by_cases hlt : 0 < m
    · have hcv := one_string (48 + (m : Int) % 10) wr
      have hz1 : (strOfNums [48 + (m : Int) % 10]).size = 1 := rfl
      have hz2 := fmt_size n h0 (by omega) HF.out
      go_wp2_with fail
      clear hcv hz1 hz2
      go_roundw
      case rel =>
        rw [← fig48]
        exact fmt_rel hlt hm HF.out (hbel.alloc hbel.size _)
      case measure => simp [intOf]; omega
    · obtain rfl : m = 0 := by omega
      have hz2 := fmt_size n h0 (by omega) HF.out
      go_wp2_with fail
      go_ret
      exact ⟨ret_str (by unfold mk; rw [← fmt_end0 n h0 HF.out]), hbel⟩

theorem below_drewN' (w : World) (n : Nat) : Below w.heap.size w (w.drewN n) := ⟨rfl, rfl, rfl, Nat.le_refl _, fun _ _ => rfl⟩

theorem Texts.cell {w : World} {base : Nat} {a : Option Addr} {n cap : Nat} {xs : List ByteArray} (h : Texts w base (.slice a n cap) xs) (k : Nat) (hk : k < xs.length) : ∃ g, a = some ⟨g, 0, none⟩ ∧ base ≤ g ∧ g < w.heap.size ∧ w.cell? ⟨g, k, none⟩ = some (.string xs[k]) := by
  rcases h.2 with ⟨h1, h2⟩ | ⟨g, cap', cur, h1, _⟩
  · rw [h2] at hk; simp at hk
  · simp only [Value.slice.injEq] at h1
    obtain ⟨rfl, rfl, rfl⟩ := h1
    have hlt := h.lt g rfl
    have hc := World.ownsRow.cellAt h k (by simpa using hk)
    refine ⟨g, rfl, hlt.1, hlt.2, ?_⟩
    rw [hc, List.getElem?_map, List.getElem?_eq_getElem hk]
    rfl

set_option maxHeartbeats 400000 in
theorem eqS_same (v1 v2 : Value) (b1 b2 : Nat) (xs : List ByteArray) (w : World) (hl : xs.length ≤ 10000000) (h1 : Texts w b1 v1 xs) (h2 : Texts w b2 v2 xs) : Calls Tryd.prog 22 #[v1, v2] w (fun e w' => e = .returned (.bool true) ∧ Below w.heap.size w w') := by
  obtain ⟨a1, c1, rfl⟩ := h1.form
  obtain ⟨a2, c2, rfl⟩ := h2.form
  have H1 := Lib.hid h1
  have H2 := Lib.hid h2
  clear h1 h2
  go_enter Tryd.func22, Tryd.ntmps22
  go_wp2_with fail
  go_loopw [5] (fun i wr => ∃ k m : Nat, k ≤ xs.length ∧ i = .int .i64 k ∧ wr = w.drewN m) (fun i _ => xs.length - (intOf i).toNat)
  case atStart => exact ⟨0, 0, by omega, rfl, rfl⟩
  case round =>
    obtain ⟨k, m, hk, rfl, rfl⟩ := hrel
    by_cases hlt : k < xs.length
    · obtain ⟨g1, rfl, _, _, hc1⟩ := H1.out.cell k hlt
      obtain ⟨g2, rfl, _, _, hc2⟩ := H2.out.cell k hlt
      generalize xs[k] = x at *
      go_wp2_with fail
      go_quiet (fail)
      go_wp2_with fail
      go_roundw
      case rel => exact ⟨k + 1, _, by omega, by go_num, rfl⟩
      case measure => simp [intOf]; omega
    · obtain rfl : k = xs.length := by omega
      go_wp2_with fail
      go_ret
      exact ⟨rfl, below_drewN' _ _⟩

theorem marks_snoc (k n : Nat) : marks k (n + 1) = marks k n ++ [mk (k + n)] := by
  unfold marks; rw [List.range_succ, List.map_append]; rfl
theorem marks_len (k n : Nat) : (marks k n).length = n := by unfold marks; simp

/-- After j rounds of marking: the first j texts are marks, the others as they were. -/
def MarkRel (k n : Nat) (xs : List ByteArray) (W : World) (base g cap : Nat) (q i : Value) (wr : World) : Prop :=
  ∃ j : Nat, j ≤ n ∧ i = .int .i64 j ∧ q = .int .i64 (k + j : Nat) ∧ Texts wr base (.slice (some ⟨g, 0, none⟩) n cap) (marks k j ++ xs.drop j) ∧ W.grownBy wr (some g)

theorem mark_set {k j : Nat} {xs : List ByteArray} (h : j < xs.length) : (marks k j ++ xs.drop j).set j (mk (k + j)) = marks k (j + 1) ++ xs.drop (j + 1) := by
  rw [List.set_append_right _ _ (by rw [marks_len]; omega), marks_len, Nat.sub_self, List.drop_eq_getElem_cons h, List.set_cons_zero, marks_snoc, List.append_assoc]
  rfl

theorem Texts.stored {w : World} {base g n cap : Nat} {xs : List ByteArray} (h : Texts w base (.slice (some ⟨g, 0, none⟩) n cap) xs) (j : Nat) (t : ByteArray) :
    Texts (w.setCell ⟨g, j, none⟩ (.string t)) base (.slice (some ⟨g, 0, none⟩) n cap) (xs.set j t) := by
  obtain ⟨a, c, hv⟩ := h.form
  have hn : n = xs.length := by simp only [Value.slice.injEq] at hv; exact hv.2.1
  subst hn
  have := (World.ownsRow.stored h j (.string t)).1
  unfold Texts
  rw [List.length_set, List.map_set]
  exact this

theorem mark_rel {k n j : Nat} {xs : List ByteArray} {W w1 : World} {base g cap : Nat} (hn : xs.length = n) (hj : j < n) (h : Texts w1 base (.slice (some ⟨g, 0, none⟩) n cap) (marks k j ++ xs.drop j)) (hg : W.grownBy w1 (some g)) :
    MarkRel k n xs W base g cap (.int .i64 ((k : Int) + j + 1)) (.int .i64 ((j : Int) + 1)) (w1.setCell ⟨g, j, none⟩ (.string (mk (k + j)))) :=
  ⟨j + 1, hj, by go_num, by go_num, by rw [← mark_set (by omega)]; exact h.stored j _, grownBy_trans hg (grownBy_setCell _ ⟨g, j, none⟩ _)⟩

set_option maxHeartbeats 400000 in
theorem markS_some (g n cap k base : Nat) (xs : List ByteArray) (w : World) (hk : 0 < k) (hk2 : k ≤ 10000000) (hn : xs.length = n) (hn2 : n ≤ 10000000) (h : Texts w base (.slice (some ⟨g, 0, none⟩) n cap) xs) :
    Calls Tryd.prog 25 #[.slice (some ⟨g, 0, none⟩) n cap, .int .i64 k] w (fun e w' => e = .returned (.int .i64 (k + n : Nat)) ∧ Texts w' base (.slice (some ⟨g, 0, none⟩) n cap) (marks k n) ∧ w.grownBy w' (some g)) := by
  have HN := Lib.hid hn
  have HH := Lib.hid h
  clear hn h
  go_enter Tryd.func25, Tryd.ntmps25
  go_wp2_with fail
  go_loopw [1, 5] (fun q i wr => MarkRel k n xs w base g cap q i wr) (fun _ i _ => n - (intOf i).toNat)
  case atStart => exact ⟨0, by omega, rfl, rfl, by simpa [marks] using HH.out, grownBy_refl _ _⟩
  case round =>
    obtain ⟨j, hj, rfl, rfl, hown, hg⟩ := hrel
    have HO := Lib.hid hown
    by_cases hlt : j < n
    · have hlen : (marks k j ++ xs.drop j).length = n := by rw [List.length_append, marks_len, List.length_drop, HN.out]; omega
      go_wp2_with fail
      rw [show ((k : Int) + (j : Int)) = ((k + j : Nat) : Int) from by omega]
      refine (markText_any (k + j) _ (by omega) (by omega)).mono ?_
      rintro e w1 ⟨rfl, hb1⟩
      have hown1 := hown.below hb1
      obtain ⟨g', hg', _, _, hc⟩ := hown1.cell j (by rw [hlen]; exact hlt)
      obtain rfl : g = g' := by injection hg' with e; injection e
      have hfz := World.ownsRow.frozenAt (by have := hown1; unfold Texts at this; rw [hlen] at this; exact this) j
      generalize (marks k j ++ xs.drop j)[j] = x at hc
      clear hown hlen hg'
      have HO1 := Lib.hid hown1
      clear hown1
      go_wp2_with fail
      go_roundw
      case rel => exact mark_rel HN.out hlt HO1.out (grownBy_trans hg (grown_below hb1 _))
      case measure => simp [intOf]; omega
    · obtain rfl : j = n := by omega
      clear hown
      go_wp2_with fail
      go_ret
      refine ⟨rfl, ?_, hg⟩
      have := HO.out
      rw [List.drop_of_length_le (by rw [HN.out]; omega), List.append_nil] at this
      exact this

theorem marks_at (k n j : Nat) (h : j < (marks k n).length) : (marks k n)[j] = mk (k + j) := by
  have h' : j < ((List.range n).map fun i => mk (k + i)).length := h
  show ((List.range n).map fun i => mk (k + i))[j]'h' = _
  simp

set_option maxHeartbeats 400000 in
theorem heldS_some (g n cap k base : Nat) (w : World) (hk : 0 < k) (hk2 : k ≤ 10000000) (hn2 : n ≤ 10000000) (h : Texts w base (.slice (some ⟨g, 0, none⟩) n cap) (marks k n)) :
    Calls Tryd.prog 26 #[.slice (some ⟨g, 0, none⟩) n cap, .int .i64 k] w (fun e w' => e = .returned (.int .i64 (k + n : Nat)) ∧ Below w.heap.size w w') := by
  have HH := Lib.hid h
  clear h
  go_enter Tryd.func26, Tryd.ntmps26
  go_wp2_with fail
  go_loopw [1, 5] (fun q i wr => ∃ j : Nat, j ≤ n ∧ i = .int .i64 j ∧ q = .int .i64 (k + j : Nat) ∧ Below w.heap.size w wr) (fun _ i _ => n - (intOf i).toNat)
  case atStart => exact ⟨0, by omega, rfl, rfl, Below.refl _ _⟩
  case round =>
    obtain ⟨j, hj, rfl, rfl, hbel⟩ := hrel
    by_cases hlt : j < n
    · obtain ⟨g', hg', _, hgl, hc⟩ := (HH.out.below hbel).cell j (by rw [marks_len]; exact hlt)
      obtain rfl : g = g' := by injection hg' with e; injection e
      rw [marks_at] at hc
      clear hg'
      obtain ⟨x, hx⟩ : ∃ x, x = mk (k + j) := ⟨_, rfl⟩
      rw [← hx] at hc
      have HX := Lib.hid hx
      clear hx
      have hj0 : (0 : Int) ≤ (j : Int) := Int.natCast_nonneg _
      have hj1 : (j : Int) < (n : Int) := by omega
      have hmt : ∀ W, Calls Tryd.prog 50 #[.int .i64 ((k : Int) + j)] W (fun e w' => e = .returned (.string x) ∧ Below W.heap.size W w') := fun W => by
        rw [HX.out, show ((k : Int) + (j : Int)) = ((k + j : Nat) : Int) from by omega]
        exact markText_any (k + j) W (by omega) (by omega)
      have HM := Lib.hid hmt
      clear hmt
      go_wp2_with fail
      go_region_held3 (fun w' => w'.cell? ⟨g, j, none⟩ = some (.string x)) (first | go_keep | (rw [hb1.cell (by simp; omega)]; assumption)) ((first | (go_at_call 50; refine (HM.out _).mono ?_; rintro e w1 ⟨rfl, hb1⟩)))
      have hb2 : Below wr.heap.size wr w1 := ⟨hb1.os, hb1.tape, hb1.output, hb1.size, hb1.block⟩
      go_wp2_with fail
      go_roundw
      case rel => exact ⟨j + 1, by omega, by go_num, by go_num, hbel.trans (hb2.mono hbel.size)⟩
      case measure => simp [intOf]; omega
    · obtain rfl : j = n := by omega
      go_wp2_with fail
      go_ret
      exact ⟨rfl, hbel⟩

theorem markS_none (k : Int) (w : World) : Calls Tryd.prog 25 #[.slice none 0 0, .int .i64 k] w (fun e w' => e = .returned (.int .i64 k) ∧ w = w') := by
  go_enter Tryd.func25, Tryd.ntmps25
  go_wp2_with fail
  refine wp_loop_rounds 1 ?_; rw [rounds_succ]
  go_wp2_with fail
  go_ret
  exact ⟨rfl, rfl⟩
theorem heldS_none (k : Int) (w : World) : Calls Tryd.prog 26 #[.slice none 0 0, .int .i64 k] w (fun e w' => e = .returned (.int .i64 k) ∧ w = w') := by
  go_enter Tryd.func26, Tryd.ntmps26
  go_wp2_with fail
  refine wp_loop_rounds 1 ?_; rw [rounds_succ]
  go_wp2_with fail
  go_ret
  exact ⟨rfl, rfl⟩

/-- Whatever row of texts the call owns: behind the marking it holds the marks; nothing that lies below it has turned. -/
theorem markS_any (v : Value) (k base : Nat) (xs : List ByteArray) (w : World) (hk : 0 < k) (hk2 : k ≤ 10000000) (hn2 : xs.length ≤ 10000000) (h : Texts w base v xs) :
    Calls Tryd.prog 25 #[v, .int .i64 k] w (fun e w' => e = .returned (.int .i64 (k + xs.length : Nat)) ∧ Texts w' base v (marks k xs.length) ∧ w.grownBy w' v.ownBlock) := by
  rcases h.2 with ⟨h1, h2⟩ | ⟨g, cap, cur, h1, _⟩
  · subst h1
    refine (markS_none k w).mono ?_
    rintro e w' ⟨rfl, rfl⟩
    rw [h2]
    exact ⟨rfl, World.ownsRow_nil _ _ _ _, grownBy_refl _ _⟩
  · subst h1
    exact markS_some g _ cap k base xs w hk hk2 rfl hn2 h

theorem heldS_any (v : Value) (k n base : Nat) (w : World) (hk : 0 < k) (hk2 : k ≤ 10000000) (hn2 : n ≤ 10000000) (h : Texts w base v (marks k n)) :
    Calls Tryd.prog 26 #[v, .int .i64 k] w (fun e w' => e = .returned (.int .i64 (k + n : Nat)) ∧ Below w.heap.size w w') := by
  rcases h.2 with ⟨h1, h2⟩ | ⟨g, cap, cur, h1, _⟩
  · subst h1
    rw [marks_len] at h2
    subst h2
    exact (heldS_none k w).mono fun e w' ⟨he, hw⟩ => ⟨he, hw ▸ Below.refl _ _⟩
  · rw [marks_len] at h1
    subst h1
    exact heldS_some g _ cap k base w hk hk2 hn2 h

theorem markS_one (v : Value) (base : Nat) (xs : List ByteArray) (w : World) (hn2 : xs.length ≤ 10000000) (h : Texts w base v xs) :
    Calls Tryd.prog 25 #[v, .int .i64 1] w (fun e w' => e = .returned (.int .i64 (1 + xs.length : Nat)) ∧ Texts w' base v (marks 1 xs.length) ∧ w.grownBy w' v.ownBlock) :=
  markS_any v 1 base xs w (by omega) (by omega) hn2 h
theorem heldS_one (v : Value) (n base : Nat) (w : World) (hn2 : n ≤ 10000000) (h : Texts w base v (marks 1 n)) :
    Calls Tryd.prog 26 #[v, .int .i64 1] w (fun e w' => e = .returned (.int .i64 (1 + n : Nat)) ∧ Below w.heap.size w w') :=
  heldS_any v 1 n base w (by omega) (by omega) hn2 h
/-- A row that lies wholly below another one's base stays while that one is written. -/
theorem Texts.apart {w w' : World} {b1 b2 : Nat} {v1 v2 : Value} {xs ys : List ByteArray} (h : Texts w b1 v1 xs) (hlt : ∀ g, v1.ownBlock = some g → g < b2) (h2 : Texts w b2 v2 ys) (hg : w.grownBy w' v2.ownBlock) : Texts w' b1 v1 xs := by
  refine World.ownsRow.kept h hg ?_
  cases hv : v1.ownBlock with
  | none => exact .inl rfl
  | some g =>
    refine .inr fun e => ?_
    have := hlt g hv
    have := (World.ownsRow.lt h2 g e.symm).1
    omega
end Go.Proofs.YtceicbncnhmkoaaDoor
