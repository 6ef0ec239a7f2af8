/- Post-dominators: the model's FirstAfter and MeetsAt. -/
import Derived.Test.YtbnebghpakllpaaAfterT
namespace Go.Proofs.Ytbnebghpakllpaa
open Go.RowKit Go

/-- A row of numbers that the call owns may be read. -/
theorem Own.readA {B : Nat} {w : World} {a : Option Addr} {n cap : Nat} {xs : List Int} (h : Own B w (.slice a n cap) xs) (hx : ∀ x ∈ xs, i64R x) : Nums w.heap.size w a xs := h.nums hx (Nat.le_refl _)

theorem exit_valid {p : List I4} {R : List Int → Nat → Bool} {k : Int} (h : exitQ p R k = true) : progOk p = true := (nodeOk_iff.1 (Bool.and_eq_true_iff.1 h).1).1
theorem firstL_nil (p : List I4) (RA : List Int → Int → Nat → Bool) : firstL p RA [] = -1 := rfl
theorem afters_valid {p : List I4} {R : List Int → Nat → Bool} {RA : List Int → Int → Nat → Bool} {a : Int} (h : aftersQ p R RA a ≠ []) : progOk p = true := by
  unfold aftersQ at h
  split at h
  · rename_i hx; exact exit_valid hx
  · exact absurd rfl h

set_option maxRecDepth 100000 in
set_option maxHeartbeats 400000 in
theorem sFirstNil_any (w : World) (a : Option Addr) (n cap : Nat) (a2 : Option Addr) (cap2 : Nat) :
    Calls Try.prog 89 #[.slice a n cap, .slice a2 0 cap2] w (Said (.int .i64 (-1)) w) := by
  go_enter Try.func89, Try.ntmps89
  go_wp2_with fail
  refine wp_loop_rounds 1 ?_; rw [rounds_succ]
  go_wp2_with fail
  go_ret
  exact ⟨rfl, Below.refl _ _⟩

/-- l08First of nodes, whatever the program is. -/
theorem sFirstL_any (B : Nat) (w : World) (a : Option Addr) (p : List I4) (RA : List Int → Int → Nat → Bool) (hRA : AllAvoid p RA) (cap : Nat) (h : Nums B w a (flat p)) (hB : B ≤ w.heap.size) (B2 : Nat) (a2 : Option Addr) (xs : List Int) (cap2 : Nat) (hv : xs ≠ [] → progOk p = true) (hl2 : xs.length ≤ 1000) (hx : ∀ x ∈ xs, 0 ≤ x ∧ x ≤ p.length) (h2 : Nums B2 w a2 xs) (hB2 : B2 ≤ w.heap.size) :
    Calls Try.prog 89 #[.slice a p.length cap, .slice a2 xs.length cap2] w (Said (.int .i64 (firstL p RA xs)) w) := by
  cases xs with
  | nil => exact sFirstNil_any w a p.length cap a2 cap2
  | cons x xs => exact sFirst_any B w a p RA hRA cap (hv (by simp)) h hB B2 a2 (x :: xs) cap2 hl2 hx h2 hB2

theorem others_mem {xs : List Int} {n x : Int} : x ∈ othersL xs n ↔ x ∈ xs ∧ x ≠ n := by
  unfold othersL
  rw [List.mem_filter, bne_iff_ne]
theorem others_le (xs : List Int) (n : Int) : (othersL xs n).length ≤ xs.length := List.length_filter_le _ _
theorem both_mem {xs ys : List Int} {x : Int} : x ∈ bothL xs ys ↔ x ∈ xs ∧ x ∈ ys := by
  unfold bothL inL
  rw [List.mem_filter, List.contains_iff_mem]
theorem rng_small {n : Nat} {xs : List Int} (hn : n ≤ 10000000) (h : ∀ m ∈ xs, 0 ≤ m ∧ m ≤ n) : ∀ m ∈ xs, i64R m := rng_i64 hn h

set_option maxRecDepth 100000 in
set_option maxHeartbeats 1000000 in
theorem sFirstAfter_any (B : Nat) (w : World) (a : Option Addr) (p : List I4) (R : List Int → Nat → Bool) (hR : AllReach p R) (RA : List Int → Int → Nat → Bool) (hRA : AllAvoid p RA) (cap : Nat) (k : Int) (hl : p.length ≤ 10000000) (h : Nums B w a (flat p)) (hB : B ≤ w.heap.size) :
    Calls Try.prog 73 #[.slice a p.length cap, .int .i64 k] w (Said (.int .i64 (firstQ p R RA k)) w) := by
  have h1 := Lib.hid (sAfters_any B w a p R hR RA hRA cap k hl h hB)
  have HH := Lib.hid h
  have HRA := Lib.hid hRA
  obtain ⟨hxr, hxl⟩ := aftersQ_rng (p := p) (R := R) (RA := RA) (a := k)
  have hv := afters_valid (p := p) (R := R) (RA := RA) (a := k)
  have e : firstQ p R RA k = firstL p RA (othersL (aftersQ p R RA k) k) := rfl
  rw [e]
  generalize aftersQ p R RA k = xs at *
  have HXR := Lib.hid hxr
  have HV := Lib.hid hv
  clear h hR hRA hxr hv e
  go_enter Try.func73, Try.ntmps73
  go_wp2_with fail
  refine h1.out.mono ?_
  rintro e w1 ⟨v, rfl, o1, b1⟩
  have s1 := b1.size
  obtain ⟨a1, c1, rfl⟩ := o1.form
  have HO1 := Lib.hid (o1.readA (rng_small hl HXR.out))
  have B1 := Lib.hid b1
  clear o1 b1
  go_wp2_with fail
  refine (sOthers_any _ w1 a1 xs c1 k (by omega) HO1.out (Nat.le_refl _)).mono ?_
  rintro e w2 ⟨v2, rfl, o2, b2⟩
  have s2 := b2.size
  have hl2 := others_le xs k
  have HYR := Lib.hid (fun x (hx : x ∈ othersL xs k) => HXR.out x (others_mem.1 hx).1)
  have HYV := Lib.hid (fun (hn : othersL xs k ≠ []) => HV.out fun e => hn (by rw [e]; rfl))
  generalize othersL xs k = ys at *
  obtain ⟨a2, c2, rfl⟩ := o2.form
  have HO2 := Lib.hid (o2.readA (rng_small hl HYR.out))
  have B2 := Lib.hid (B1.out.trans (b2.mono s1))
  clear o2 b2
  go_wp2_with fail
  refine (sFirstL_any B w2 a p RA HRA.out cap (HH.out.kept (B2.out.mono hB)) (Nat.le_trans hB B2.out.size) w2.heap.size a2 ys c2 HYV.out (by omega) HYR.out HO2.out (Nat.le_refl _)).mono ?_
  rintro e w3 ⟨rfl, b3⟩
  have B3 := Lib.hid (B2.out.trans (b3.mono B2.out.size))
  clear b3
  go_wp2_with fail
  go_ret
  exact ⟨rfl, B3.out⟩

end Go.Proofs.Ytbnebghpakllpaa
