/- slices.DeleteFunc over a row of numbers that the call owns, whatever function value is handed over that may make memory of its own. -/
import Derived.Test.YtbnebghpakllpaaPass
namespace Go.Proofs.Ytbnebghpakllpaa
open Go.RowKit Go

theorem Own.cut {B : Nat} {w : World} {g n cap : Nat} {ys : List Int} (h : Own B w (.slice (some ⟨g, 0, none⟩) n cap) ys) {i : Nat} (hi : i ≤ ys.length) : Own B w (.slice (some ⟨g, 0, none⟩) i cap) (ys.take i) := by
  have hl : (ys.take i).length = i := by rw [List.length_take]; omega
  rcases h.2 with ⟨h1, _⟩ | ⟨g', cap', cur, h1, hb, hg, hn, hm, hs, ht⟩
  · cases h1
  · simp only [Value.slice.injEq, Option.some.injEq, Addr.mk.injEq, and_true] at h1
    obtain ⟨rfl, rfl, rfl⟩ := h1
    refine ⟨by simp, .inr ⟨g, cap, cur, by rw [hl], hb, hg, by omega, hm, hs, ?_⟩⟩
    rw [hl, List.map_take, ← ht, List.take_take]
    congr 1
    omega

theorem Own.stores {B g n cap : Nat} : ∀ (vs : List Int) (o : Nat) {w : World} {ys : List Int}, Own B w (.slice (some ⟨g, 0, none⟩) n cap) ys → ∃ zs, Own B (w.setCells g o (vs.map (.int .i64))) (.slice (some ⟨g, 0, none⟩) n cap) zs ∧ zs.length = ys.length ∧ zs.take o = ys.take o
  | [], _, _, ys, h => ⟨ys, h, rfl, rfl⟩
  | t :: vs, o, w, ys, h => by
    obtain ⟨zs, h1, h2, h3⟩ := Own.stores vs (o + 1) (h.stored o t)
    refine ⟨zs, h1, by rw [h2, List.length_set], ?_⟩
    have e := congrArg (List.take o) h3
    rw [List.take_take, List.take_take, show min o (o + 1) = o by omega, List.take_set_of_le (Nat.le_refl _)] at e
    exact e

/-- The cells from k on made zero, and the row cut there. -/
theorem Own.cleared {B g n cap k m : Nat} {w : World} {ys : List Int} (h : Own B w (.slice (some ⟨g, 0, none⟩) n cap) ys) (hk : k ≤ ys.length) : Own B (w.setCells g k (List.replicate m (.int .i64 0))) (.slice (some ⟨g, 0, none⟩) k cap) (ys.take k) := by
  obtain ⟨zs, h1, h2, h3⟩ := Own.stores (List.replicate m 0) k h
  rw [List.map_replicate] at h1
  rw [← h3]
  exact h1.cut (by omega)

theorem del_take {q : Int → Bool} {xs : List Int} {j : Nat} (h : ∀ x ∈ xs.take j, q x = false) : (xs.take j).filter (fun x => !q x) = xs.take j := by
  rw [List.filter_eq_self]
  intro x hx
  rw [h x hx]
  rfl

theorem Own.frozen {B : Nat} {w : World} {g n cap : Nat} {ys : List Int} (h : Own B w (.slice (some ⟨g, 0, none⟩) n cap) ys) (j : Nat) : w.frozen? ⟨g, j, none⟩ = false := by
  obtain ⟨a, c, hv⟩ := h.form
  have hn : n = ys.length := by simp only [Value.slice.injEq] at hv; exact hv.2.1
  subst hn
  exact World.ownsRow.frozenAt h j

/-- While DeleteFunc looks for the first one. -/
def DelInv (B : Nat) (w : World) (v : Value) (xs : List Int) (q : Int → Bool) (j : Nat) (W : World) : Prop := Own B W v xs ∧ Below B w W ∧ ∀ x ∈ xs.take j, q x = false
def DelHit (B : Nat) (w : World) (v : Value) (xs : List Int) (q : Int → Bool) (j : Nat) (W : World) : Prop := DelInv B w v xs q j W ∧ q (xs.getD j 0) = true

/-- Behind that: j have been looked at, k of them are kept and lie at the row's head. -/
structure Kept2 (xs : List Int) (q : Int → Bool) (j k : Nat) (ys : List Int) : Prop where
  len : ys.length = xs.length
  lt : k < j
  low : ys.take k = (xs.take j).filter (fun x => !q x)
  high : ∀ m, j ≤ m → ys[m]? = xs[m]?

theorem Kept2.start {xs : List Int} {q : Int → Bool} {j : Nat} (h : ∀ x ∈ xs.take j, q x = false) (hj : j < xs.length) (hq : q (xs.getD j 0) = true) : Kept2 xs q (j + 1) j xs := by
  refine ⟨rfl, Nat.lt_succ_self _, ?_, fun _ _ => rfl⟩
  have e : xs.getD j 0 = xs[j] := by rw [List.getD_eq_getElem?_getD, List.getElem?_eq_getElem hj]; rfl
  rw [e] at hq
  rw [List.take_succ_eq_append_getElem hj, List.filter_append, del_take h]
  simp [hq]
theorem Kept2.drop {xs ys : List Int} {q : Int → Bool} {j k : Nat} {x : Int} (h : Kept2 xs q j k ys) (hj : xs[j]? = some x) (hq : q x = true) : Kept2 xs q (j + 1) k ys := by
  obtain ⟨hlt, e⟩ := List.getElem?_eq_some_iff.1 hj
  refine ⟨h.len, by have := h.lt; omega, ?_, fun m hm => h.high m (by omega)⟩
  rw [List.take_succ_eq_append_getElem hlt, List.filter_append, ← h.low, e]
  simp [hq]
theorem Kept2.keep {xs ys : List Int} {q : Int → Bool} {j k : Nat} {x : Int} (h : Kept2 xs q j k ys) (hj : xs[j]? = some x) (hq : q x = false) : Kept2 xs q (j + 1) (k + 1) (ys.set k x) := by
  obtain ⟨hlt, e⟩ := List.getElem?_eq_some_iff.1 hj
  have hk : k < ys.length := by rw [h.len]; have := h.lt; omega
  refine ⟨by rw [List.length_set, h.len], by have := h.lt; omega, ?_, fun m hm => ?_⟩
  · rw [List.take_succ_eq_append_getElem hlt, List.filter_append, ← h.low, e, List.take_succ_eq_append_getElem (by rw [List.length_set]; exact hk), List.take_set_of_le (Nat.le_refl _), List.getElem_set_self]
    simp [hq]
  · rw [List.getElem?_set_ne (by have := h.lt; omega)]
    exact h.high m (by omega)
theorem Kept2.done {xs ys : List Int} {q : Int → Bool} {k : Nat} (h : Kept2 xs q xs.length k ys) : ys.take k = xs.filter (fun x => !q x) := by
  rw [h.low, List.take_length]

set_option maxRecDepth 100000 in
set_option maxHeartbeats 2000000 in
theorem pDeleteFunc_any (g : FuncId) (lb : Array Value) (eg : EntersAt g) (B : Nat) (w : World) (v : Value) (xs : List Int) (q : Int → Bool) (hl : xs.length ≤ 1000000) (hx : ∀ x ∈ xs, i64R x) (ho : Own B w v xs) (hB : B ≤ w.heap.size)
    (hcall : ∀ W x, Below B w W → x ∈ xs → Calls Try.prog g (#[.int .i64 x] ++ lb) W (Said (.bool (q x)) W)) :
    Calls Try.prog 75 #[v, .func (.func g) #[] lb] w (fun e w' => ∃ v', e = .returned v' ∧ Own B w' v' (xs.filter (fun x => !q x)) ∧ Below B w w') := by
  obtain ⟨a, cap, rfl⟩ := ho.form
  have h1 := pIndexFunc_any g lb eg w a cap xs hl (DelInv B w (.slice a xs.length cap) xs q) (DelHit B w (.slice a xs.length cap) xs q) (fun j W hI => ⟨_, hI.1.nums hx (Nat.le_refl _)⟩)
    (fun j hj W hI => (hcall W xs[j] hI.2.1 (List.getElem_mem hj)).mono (by
      rintro e w1 ⟨rfl, b1⟩
      have hs := hI.2.1.size
      refine ⟨_, rfl, fun ht => ⟨⟨hI.1.below b1, hI.2.1.trans (b1.mono (by omega)), hI.2.2⟩, ?_⟩, fun hf => ⟨hI.1.below b1, hI.2.1.trans (b1.mono (by omega)), fun x hm => ?_⟩⟩
      · rw [List.getD_eq_getElem?_getD, List.getElem?_eq_getElem hj]; exact ht
      · rw [List.take_succ_eq_append_getElem hj, List.mem_append, List.mem_singleton] at hm
        rcases hm with hm | rfl
        · exact hI.2.2 x hm
        · exact hf)) ⟨ho, Below.refl _ _, by simp⟩
  replace h1 := Lib.hid h1
  have HC := Lib.hid hcall
  have HX := Lib.hid hx
  unfold EntersAt at eg
  have hcl : ∀ (wr : World) (gb n k : Nat) (ys : List Int), Own B wr (.slice (some ⟨gb, 0, none⟩) n cap) ys → k < ys.length → ∀ ty, (Builtin.clear_ #[26] ty #[.slice (some ⟨gb, k, none⟩) (ys.length - k) (cap - k)]).run Try.prog wr = .ok (.tuple #[]) (wr.setCells gb k (List.replicate (ys.length - k) (.int .i64 0))) := by
    intro wr gb n k ys hO hk ty
    refine Lib.run_clear_slice wr _ _ ty _ Try.underlying26 (fun _ => by kernel_rfl) rfl rfl gb k _ _ (by omega) (fun t ht => ?_) (fun t _ => hO.frozen _)
    obtain ⟨g', e, _, _, hc⟩ := hO.cell (k + t) (by omega)
    cases e
    rw [hc]
    rfl
  have HCL := Lib.hid hcl
  clear hcall hx hcl ho
  go_enter Try.func75, Try.ntmps75
  go_wp2_with fail
  refine h1.out.mono ?_
  rintro e w1 (⟨j, hj, rfl, hh⟩ | ⟨rfl, hi⟩)
  · obtain ⟨⟨ho1, b1, hno⟩, hq⟩ := hh
    obtain ⟨gb, rfl, hgb, _, _⟩ := ho1.cell j hj
    have HK := Lib.hid (Kept2.start hno hj hq)
    have HO1 := Lib.hid ho1
    have B1 := Lib.hid b1
    have hne1 : ((j : Int) == -1) = false := beq_eq_false_iff_ne.2 (by omega)
    have hcap : xs.length ≤ cap := by
      rcases ho1.2 with ⟨h1, _⟩ | ⟨g', cap', cur, h1, hb, hg, hn, hm, hs, ht⟩
      · cases h1
      · simp only [Value.slice.injEq] at h1
        omega
    clear ho1 b1 hno hq
    go_wp2_with fail
    go_loopw [5, 6, 7] (fun iv jv _ wr => ∃ (k j : Nat) (ys : List Int), j ≤ xs.length ∧ iv = .int .i64 k ∧ jv = .int .i64 j ∧ Hid (Kept2 xs q j k ys) ∧ Hid (Own B wr (.slice (some ⟨gb, 0, none⟩) xs.length cap) ys) ∧ Hid (Below B w wr)) (fun _ jv _ _ => xs.length - (intOf jv).toNat)
    case atStart => exact ⟨j, j + 1, xs, by omega, rfl, by go_num, HK, HO1, B1⟩
    case round =>
      obtain ⟨k, j2, ys, hj2, rfl, rfl, HK2, HO2, HB2⟩ := hrel
      have hlen := HK2.out.len
      have hkj := HK2.out.lt
      by_cases hlt : j2 < xs.length
      · obtain ⟨g', e', _, hgl, hc⟩ := HO2.out.cell j2 (by omega)
        cases e'
        have hxj := HK2.out.high j2 (Nat.le_refl _)
        rw [List.getElem?_eq_getElem (by omega)] at hxj
        have HM := Lib.hid (HK2.out.high j2 (Nat.le_refl _))
        have hxm : ys[j2] ∈ xs := by
          rw [List.getElem?_eq_getElem (show j2 < ys.length by omega)] at HM
          exact List.mem_of_getElem? HM.out.symm
        have HXJ := Lib.hid hxj.symm
        obtain ⟨g', e', _, _, hck⟩ := HO2.out.cell k (by omega)
        cases e'
        have hfk := HO2.out.frozen k
        have h2 := Lib.hid (HC.out wr ys[j2] HB2.out hxm)
        generalize ys[j2] = x at *
        generalize ys[k]'(by omega) = old at *
        clear hxj HM hxm hlen
        have hs2 := HB2.out.size
        go_wp2_with fail
        refine h2.out.mono ?_
        rintro e w3 ⟨rfl, b3⟩
        have HO3 := Lib.hid (HO2.out.below b3)
        have HB3 := Lib.hid (HB2.out.trans (b3.mono (by omega)))
        have hck3 : w3.cell? ⟨gb, k, none⟩ = some (.int .i64 old) := by rw [b3.cell (p := ⟨gb, k, none⟩) hgl]; exact hck
        have hfk3 : w3.frozen? ⟨gb, k, none⟩ = false := by rw [b3.frozen (p := ⟨gb, k, none⟩) hgl]; exact hfk
        clear b3 hck hfk hc
        cases hq : q x with
        | true =>
          have HQ := Lib.hid hq
          clear hq
          go_wp2_with fail
          go_roundw
          case rel => exact ⟨k, j2 + 1, ys, by omega, rfl, by go_num, HK2.out.drop HXJ.out HQ.out, HO3, HB3⟩
          case measure => simp [intOf]; omega
        | false =>
          have HQ := Lib.hid hq
          clear hq
          go_wp2_with fail
          go_roundw
          case rel => exact ⟨k + 1, j2 + 1, _, by omega, by go_num, by go_num, HK2.out.keep HXJ.out HQ.out, HO3.out.stored k x, HB3.out.setCell hgb _⟩
          case measure => simp [intOf]; omega
      · obtain rfl : j2 = xs.length := by omega
        have hkc : ¬ cap = k := by omega
        have hc1 := HCL.out wr gb xs.length k ys HO2.out (by omega)
        rw [hlen] at hc1
        have HE := Lib.hid (HK2.out.done)
        have HR := Lib.hid (Own.cleared (k := k) (m := xs.length - k) HO2.out (by omega))
        rw [HE.out] at HR
        have HBR := Lib.hid (below_setCells (List.replicate (xs.length - k) (.int .i64 0)) k HB2.out hgb)
        clear hlen
        go_wp2_with fail
        go_ret
        exact ⟨_, rfl, HR.out, HBR.out⟩
  · obtain ⟨ho1, b1, hno⟩ := hi
    rw [List.take_length] at hno
    have e : xs.filter (fun x => !q x) = xs := by rw [List.filter_eq_self]; intro x hx; rw [hno x hx]; rfl
    have E := Lib.hid e
    have HO1 := Lib.hid ho1
    have B1 := Lib.hid b1
    clear ho1 b1 hno e
    go_wp2_with fail
    go_ret
    exact ⟨_, rfl, by rw [E.out]; exact HO1.out, B1.out⟩

end Go.Proofs.Ytbnebghpakllpaa
