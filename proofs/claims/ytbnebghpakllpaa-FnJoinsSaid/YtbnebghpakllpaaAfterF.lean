/- Post-dominators: the contracts of the program's FirstAfter and MeetsAt. -/
import Derived.Test.YtbnebghpakllpaaAfterP
namespace Go.Proofs.Ytbnebghpakllpaa
open Go.RowKit Go

theorem aftersQ_i64 {p : List I4} {R : List Int → Nat → Bool} {RA : List Int → Int → Nat → Bool} {k : Int} (hl : p.length ≤ 10000000) : ∀ x ∈ aftersQ p R RA k, i64R x := fun x h => by have := (aftersQ_rng (p := p) (R := R) (RA := RA) (a := k)).1 x h; unfold i64R; omega
theorem afterQ_mem {p : List I4} {R : List Int → Nat → Bool} {RA : List Int → Int → Nat → Bool} (hRA : AllAvoid p RA) {k x : Int} (hx : 0 ≤ x ∧ x ≤ p.length) : afterQ p R RA k x = inL (aftersQ p R RA k) x := by
  obtain ⟨c, rfl⟩ := Int.eq_ofNat_of_zero_le hx.1
  rw [Bool.eq_iff_iff]
  unfold inL
  rw [List.contains_iff_mem]
  cases he : exitQ p R k with
  | false =>
    rw [afters_none he]
    unfold afterQ
    unfold exitQ at he
    constructor
    · intro h
      simp only [Bool.and_eq_true] at h
      rw [h.1, h.2.2.1] at he
      cases he
    · intro h
      simp at h
  | true =>
    obtain ⟨hp, a, rfl, ha⟩ := exit_rng he
    rw [afters_mem hRA he]
    constructor
    · intro h
      unfold afterQ at h
      simp only [Bool.and_eq_true] at h
      exact ⟨c, by omega, rfl, (aftB_iff hRA).1 h.2.2.2⟩
    · rintro ⟨d, hd, e, h⟩
      obtain rfl : c = d := by omega
      exact after_iff hRA he hd h

set_option maxRecDepth 100000 in
set_option maxHeartbeats 400000 in
theorem first_asks (b : Nat) (k x : Int) (W : World) (hc : W.cell? ⟨b, 0, none⟩ = some (.int .i64 k)) : Calls Try.prog 77 #[.int .i64 x, .pointer (some ⟨b, 0, none⟩)] W (Said (.bool (x == k)) W) := by
  go_enter Try.func77, Try.ntmps77
  go_wp2_with fail
  go_ret
  exact ⟨rfl, Below.refl _ _⟩

set_option maxRecDepth 100000 in
set_option maxHeartbeats 1000000 in
theorem pFirstAfter_any (B : Nat) (w : World) (a : Option Addr) (p : List I4) (R : List Int → Nat → Bool) (hR : AllReach p R) (RA : List Int → Int → Nat → Bool) (hRA : AllAvoid p RA) (cap : Nat) (k : Int) (hl : p.length ≤ 10000000) (h : Nums B w a (flat p)) (hB : B ≤ w.heap.size) :
    Calls Try.prog 54 #[.slice a p.length cap, .int .i64 k] w (Said (.int .i64 (firstQ p R RA k)) w) := by
  have HH := Lib.hid h
  have h1 := Lib.hid (fun W (hW : Below w.heap.size w W) => pAfters_any B W a p R hR RA hRA cap k hl (HH.out.kept (hW.mono hB)) (Nat.le_trans hB hW.size))
  have HRR := Lib.hid hR
  have HRA := Lib.hid hRA
  obtain ⟨hxr, hxl⟩ := aftersQ_rng (p := p) (R := R) (RA := RA) (a := k)
  have hv := afters_valid (p := p) (R := R) (RA := RA) (a := k)
  have hi := aftersQ_i64 (p := p) (R := R) (RA := RA) (k := k) hl
  have HBH := Lib.hid (fun (xs : List Int) (h : ∀ x ∈ xs, x ∈ aftersQ p R RA k) => behind_afters hRA h)
  have e : firstQ p R RA k = firstL p RA (othersL (aftersQ p R RA k) k) := rfl
  rw [e]
  generalize aftersQ p R RA k = xs at *
  have HXR := Lib.hid hxr
  have HV := Lib.hid hv
  have HI := Lib.hid hi
  have hmf : ∀ (fn : Fn) (first cap : Array Value) (w : World), (Instr.makeFunc fn first cap).run Try.prog w = .ok (.func fn first cap) w := fun _ _ _ _ => rfl
  clear h hR hRA hxr hv hi e
  have B0 := Lib.hid (below1 w (.cells #[.int .i64 k] 3))
  go_enter Try.func54, Try.ntmps54
  go_wp2_with fail
  refine (h1.out _ B0.out).mono ?_
  rintro e w1 ⟨v, rfl, o1, b1⟩
  have s1 := b1.size
  have hc1 : w1.cell? ⟨w.heap.size, 0, none⟩ = some (.int .i64 k) := by
    rw [b1.cell (p := ⟨w.heap.size, 0, none⟩) (by simp), World.cell?_alloc_at _ _ _ _ rfl]
    rfl
  have HC1 := Lib.hid hc1
  have s1' : w.heap.size + 1 ≤ w1.heap.size := by simpa using s1
  have h2 := Lib.hid (pDeleteFunc_any 77 #[.pointer (some ⟨w.heap.size, 0, none⟩)] (enters_of Try.func77 (by kernel_rfl) rfl) (w.alloc (.cells #[.int .i64 k] 3)).heap.size w1 v xs (fun x => x == k) (by omega) HI.out o1 s1
    (fun W x hW _ => first_asks w.heap.size k x W (by rw [hW.cell (p := ⟨w.heap.size, 0, none⟩) (by simp)]; exact HC1.out)))
  have B1 := Lib.hid (B0.out.trans (b1.mono B0.out.size))
  clear o1 b1 hc1 s1
  go_wp2_with fail
  refine h2.out.mono ?_
  rintro e w2 ⟨v2, rfl, o2, b2⟩
  rw [show xs.filter (fun x => !(x == k)) = othersL xs k from rfl] at o2
  have s2 := b2.size
  have hl2 := others_le xs k
  have HYR := Lib.hid (fun x (hx : x ∈ othersL xs k) => HXR.out x (others_mem.1 hx).1)
  have HYV := Lib.hid (fun (hn : othersL xs k ≠ []) => HV.out fun e => hn (by rw [e]; rfl))
  have HYB := Lib.hid (HBH.out (othersL xs k) (fun x hx => (others_mem.1 hx).1))
  generalize othersL xs k = ys at *
  obtain ⟨a2, c2, rfl⟩ := o2.form
  have HO2 := Lib.hid (o2.readA (rng_small hl HYR.out))
  have B2 := Lib.hid (B1.out.trans ⟨b2.os, b2.tape, b2.output, b2.size, fun i hi => b2.block i (by simp at hi ⊢; omega)⟩)
  clear o2 b2 h2
  go_wp2_with fail
  refine (pEarliest_any B w2 a p R HRR.out RA HRA.out cap (HH.out.kept (B2.out.mono hB)) (Nat.le_trans hB B2.out.size) w2.heap.size a2 ys c2 HYV.out (by omega) HYR.out HO2.out (Nat.le_refl _) HYB.out).mono ?_
  rintro e w3 ⟨rfl, b3⟩
  have B3 := Lib.hid (B2.out.trans (b3.mono B2.out.size))
  clear b3
  go_wp2_with fail
  go_ret
  exact ⟨rfl, B3.out⟩

end Go.Proofs.Ytbnebghpakllpaa
