/- Joins: the program's InsideOf, IsInside, IsForward. -/
import Derived.Test.YtbnebghpakllpaaInsideP
import Derived.Test.YtbnebghpakllpaaForwardS
namespace Go.Proofs.Ytbnebghpakllpaa
open Go.RowKit Go

theorem join_nat {p : List I4} {R : List Int → Nat → Bool} {RA : List Int → Int → Nat → Bool} (hR : AllReach p R) (hRA : AllAvoid p RA) {b : Int} (h : inL (brQ p) b = true) : ∃ j : Nat, joinB p R RA b = j ∧ j ≤ p.length := by
  obtain ⟨hp, k, rfl, hk, hkb⟩ := br_mem.1 h
  obtain ⟨j, e, hj, _⟩ := join_node hR hRA hp hk hkb
  exact ⟨j, e, hj⟩
theorem inside_33 {p : List I4} {f : Nat → Bool} {b : Nat} {c : Int} (hp : progOk p = true) (hf : ∀ k, f k = true ↔ ReachA p (nextL p b) c k) : nodesTo f 33 = nodesTo f (p.length + 1) := by
  have h := progOk_len hp
  have := nodesTo_more (f := f) (m := p.length + 1) (fun k hk => by
    rw [← Bool.not_eq_true, hf k]
    intro h
    have := h.le hp (fun u hu => (nextL_rng hp b u hu).2)
    omega) (33 - (p.length + 1))
  rwa [show p.length + 1 + (33 - (p.length + 1)) = 33 by omega] at this

set_option maxRecDepth 100000 in
set_option maxHeartbeats 1000000 in
theorem pInside_any (B : Nat) (w : World) (a : Option Addr) (p : List I4) (R : List Int → Nat → Bool) (hR : AllReach p R) (RA : List Int → Int → Nat → Bool) (hRA : AllAvoid p RA) (cap : Nat) (b : Int) (hl : p.length ≤ 10000000) (h : Nums B w a (flat p)) (hB : B ≤ w.heap.size) :
    Calls Try.prog 23 #[.slice a p.length cap, .int .i64 b] w (RowSaid (insideQ p R RA b) w) := by
  have HH := Lib.hid h
  have h1 := pJoinOf_any B w a p R hR RA hRA cap b hl h hB
  unfold joinOfQ at h1
  cases hin : inL (brQ p) b with
  | false =>
    rw [if_neg (by rw [hin]; simp)] at h1
    have e : insideQ p R RA b = [] := by unfold insideQ; rw [if_neg (by rw [hin]; simp)]
    rw [e]
    replace h1 := Lib.hid h1
    clear h hR hRA hin e
    go_enter Try.func23, Try.ntmps23
    go_wp2_with fail
    refine h1.out.mono ?_
    rintro e w1 ⟨rfl, b1⟩
    go_wp2_with fail
    go_ret
    exact ⟨_, rfl, Own.nil _ _, b1⟩
  | true =>
    rw [if_pos hin] at h1
    have e : insideQ p R RA b = nodesTo (RA (nextL p b.toNat) (joinB p R RA b)) (p.length + 1) := by unfold insideQ; rw [if_pos hin]
    rw [e]
    obtain ⟨hp, k, rfl, hk, hkb⟩ := br_mem.1 hin
    rw [Int.toNat_natCast]
    have hxo := exit_out hR hRA hp hk hkb
    obtain ⟨j, ej, hj⟩ := join_nat hR hRA hin
    rw [ej] at h1 hxo ⊢
    have hf := hRA (nextL p k) j
    rw [← inside_33 hp hf]
    have H2 := Lib.hid (fun W h hB => pMarksIn_any B W a p cap k j hp (by omega) hxo h hB _ hf)
    generalize RA (nextL p k) j = f at *
    have H3 := Lib.hid (fun W => pMarked_any W f)
    generalize marksA f = A at *
    replace h1 := Lib.hid h1
    clear h hR hRA hin e hp hk hkb hxo ej hf
    go_enter Try.func23, Try.ntmps23
    go_wp2_with fail
    refine h1.out.mono ?_
    rintro e w1 ⟨rfl, b1⟩
    have B1 := Lib.hid b1
    clear b1
    go_wp2_with fail
    refine (H2.out _ (HH.out.kept (B1.out.mono hB)) (Nat.le_trans hB B1.out.size)).mono ?_
    rintro e w2 ⟨rfl, b2⟩
    have B2 := Lib.hid (B1.out.trans (b2.mono B1.out.size))
    clear b2
    go_wp2_with fail
    refine (H3.out _).mono ?_
    intro e w3 hr
    have HR := Lib.hid (row_said hr rfl B2.out)
    obtain ⟨v, rfl, _, _⟩ := HR.out
    clear hr
    go_wp2_with fail
    go_ret
    exact HR.out

set_option maxRecDepth 100000 in
set_option maxHeartbeats 400000 in
theorem pIsInside_any (B : Nat) (w : World) (a : Option Addr) (p : List I4) (R : List Int → Nat → Bool) (hR : AllReach p R) (RA : List Int → Int → Nat → Bool) (hRA : AllAvoid p RA) (cap : Nat) (b x : Int) (hl : p.length ≤ 10000000) (h : Nums B w a (flat p)) (hB : B ≤ w.heap.size) :
    Calls Try.prog 25 #[.slice a p.length cap, .int .i64 b, .int .i64 x] w (Said (.bool (isInsideQ p R RA b x)) w) := by
  have h1 := Lib.hid (pInside_any B w a p R hR RA hRA cap b hl h hB)
  obtain ⟨hbx, hbl⟩ := inside_small (p := p) (R := R) (RA := RA) (b := b)
  have HBX := Lib.hid hbx
  have e : isInsideQ p R RA b x = inL (insideQ p R RA b) x := rfl
  rw [e]
  generalize insideQ p R RA b = bb at *
  clear h hR hRA e hbx
  go_enter Try.func25, Try.ntmps25
  go_wp2_with fail
  refine h1.out.mono ?_
  rintro e w1 ⟨v, rfl, o1, b1⟩
  obtain ⟨a1, c1, rfl⟩ := o1.form
  have HO1 := Lib.hid (o1.readA (rng_small hl HBX.out))
  have B1 := Lib.hid b1
  clear o1 b1
  go_wp2_with fail
  refine (pContains_any w1 w1.heap.size a1 bb c1 x (by omega) HO1.out).mono ?_
  rintro e w2 ⟨rfl, rfl⟩
  go_wp2_with fail
  go_ret
  exact ⟨rfl, B1.out⟩

set_option maxRecDepth 100000 in
set_option maxHeartbeats 400000 in
theorem forward_asks (g1 g2 : Nat) (b j x : Int) (W : World) (hc : W.cell? ⟨g1, 0, none⟩ = some (.int .i64 b)) (hd : W.cell? ⟨g2, 0, none⟩ = some (.int .i64 j)) :
    Calls Try.prog 56 #[.int .i64 x, .pointer (some ⟨g1, 0, none⟩), .pointer (some ⟨g2, 0, none⟩)] W (Said (.bool (!betw b j x)) W) := by
  unfold betw
  by_cases h1 : x ≤ b
  · have h1d : decide (x ≤ b) = true := by simpa using h1
    go_enter Try.func56, Try.ntmps56
    go_wp2_with fail
    go_ret
    exact ⟨ret_bool (by simp [h1]), Below.refl _ _⟩
  · have h1d : decide (x ≤ b) = false := by simpa using h1
    go_enter Try.func56, Try.ntmps56
    go_wp2_with fail
    go_ret
    exact ⟨ret_bool (by simp), Below.refl _ _⟩

set_option maxRecDepth 100000 in
set_option maxHeartbeats 1000000 in
theorem pForward_any (B : Nat) (w : World) (a : Option Addr) (p : List I4) (R : List Int → Nat → Bool) (hR : AllReach p R) (RA : List Int → Int → Nat → Bool) (hRA : AllAvoid p RA) (cap : Nat) (b : Int) (hl : p.length ≤ 10000000) (h : Nums B w a (flat p)) (hB : B ≤ w.heap.size) :
    Calls Try.prog 27 #[.slice a p.length cap, .int .i64 b] w (Said (.bool (forwardQ p R RA b)) w) := by
  have HH := Lib.hid h
  have h1 := fun W (hW : Below w.heap.size w W) => pJoinOf_any B W a p R hR RA hRA cap b hl (HH.out.kept (hW.mono hB)) (Nat.le_trans hB hW.size)
  have h2 := Lib.hid (fun W (hW : Below w.heap.size w W) => pInside_any B W a p R hR RA hRA cap b hl (HH.out.kept (hW.mono hB)) (Nat.le_trans hB hW.size))
  have hmf : ∀ (fn : Fn) (first cap : Array Value) (w : World), (Instr.makeFunc fn first cap).run Try.prog w = .ok (.func fn first cap) w := fun _ _ _ _ => rfl
  have B0 := Lib.hid (below1 w (.cells #[.int .i64 b] 3))
  have e : forwardQ p R RA b = (inL (brQ p) b && (insideQ p R RA b).all (betw b (joinB p R RA b))) := rfl
  rw [e]
  unfold joinOfQ at h1
  clear e
  cases hin : inL (brQ p) b with
  | false =>
    rw [if_neg (by rw [hin]; simp)] at h1
    rw [Bool.false_and]
    replace h1 := Lib.hid h1
    clear h hR hRA hin h2
    go_enter Try.func27, Try.ntmps27
    go_wp2_with fail
    refine (h1.out _ B0.out).mono ?_
    rintro e w1 ⟨rfl, b1⟩
    have B1 := Lib.hid (B0.out.trans (b1.mono B0.out.size))
    clear b1
    go_wp2_with fail
    go_ret
    exact ⟨rfl, B1.out.alloc B1.out.size _⟩
  | true =>
    rw [if_pos hin] at h1
    rw [Bool.true_and]
    obtain ⟨j, ej, hj⟩ := join_nat hR hRA hin
    rw [ej] at h1 ⊢
    obtain ⟨hix, hil⟩ := inside_small (p := p) (R := R) (RA := RA) (b := b)
    generalize insideQ p R RA b = xs at *
    have HIX := Lib.hid hix
    replace h1 := Lib.hid h1
    clear h hR hRA hin ej hix
    go_enter Try.func27, Try.ntmps27
    go_wp2_with fail
    refine (h1.out _ B0.out).mono ?_
    rintro e w1 ⟨rfl, b1⟩
    have B1 := Lib.hid (B0.out.trans (b1.mono B0.out.size))
    have hc1 : w1.cell? ⟨w.heap.size, 0, none⟩ = some (.int .i64 b) := by
      rw [b1.cell (p := ⟨w.heap.size, 0, none⟩) (by simp), World.cell?_alloc_at _ _ _ _ rfl]
      rfl
    have hs1 : w.heap.size < w1.heap.size := by have := b1.size; simp at this; omega
    have B2 := Lib.hid (B1.out.alloc B1.out.size (.cells #[.int .i64 (j : Int)] 3))
    have HC1 := Lib.hid (show (w1.alloc (.cells #[.int .i64 (j : Int)] 3)).cell? ⟨w.heap.size, 0, none⟩ = some (.int .i64 b) by
      rw [World.cell?_alloc_lt _ _ _ (by simpa using hs1)]; exact hc1)
    have HC2 := Lib.hid (show (w1.alloc (.cells #[.int .i64 (j : Int)] 3)).cell? ⟨w1.heap.size, 0, none⟩ = some (.int .i64 (j : Int)) by
      rw [World.cell?_alloc_at _ _ _ _ rfl]; rfl)
    have hjn : ((j : Int) != -1) = true := by rw [bne_iff_ne]; omega
    clear b1
    go_wp2_with fail
    refine (h2.out _ B2.out).mono ?_
    rintro e w2 ⟨v, rfl, o2, b2⟩
    have HC3 := Lib.hid (show w2.cell? ⟨w.heap.size, 0, none⟩ = some (.int .i64 b) by rw [b2.cell (p := ⟨w.heap.size, 0, none⟩) (by simp; omega)]; exact HC1.out)
    have HC4 := Lib.hid (show w2.cell? ⟨w1.heap.size, 0, none⟩ = some (.int .i64 (j : Int)) by rw [b2.cell (p := ⟨w1.heap.size, 0, none⟩) (by simp)]; exact HC2.out)
    obtain ⟨a2, c2, rfl⟩ := o2.form
    have HO2 := Lib.hid (o2.readA (rng_small hl HIX.out))
    have hs2 : w1.heap.size < w2.heap.size := by have := b2.size; simp at this; omega
    have B3 := Lib.hid (B2.out.trans (b2.mono B2.out.size))
    clear o2 b2
    have h5 := pContainsFunc_any 56 #[.pointer (some ⟨w.heap.size, 0, none⟩), .pointer (some ⟨w1.heap.size, 0, none⟩)] (enters_of Try.func56 (by kernel_rfl) rfl) w2 a2 c2 xs (by omega)
      (fun k W => Below w2.heap.size w2 W ∧ ∀ x ∈ xs.take k, betw b j x = true) (fun k W => Below w2.heap.size w2 W ∧ ∃ h : k < xs.length, betw b j xs[k] = false)
      (fun k W hW => ⟨_, HO2.out.kept hW.1⟩)
      (fun k hk W hW => by
        refine (forward_asks w.heap.size w1.heap.size b j xs[k] W (by rw [hW.1.cell (p := ⟨w.heap.size, 0, none⟩) (by simp; omega)]; exact HC3.out) (by rw [hW.1.cell (p := ⟨w1.heap.size, 0, none⟩) (by simpa using hs2)]; exact HC4.out)).mono ?_
        rintro e w' ⟨rfl, hb⟩
        refine ⟨_, rfl, fun hr => ⟨hW.1.trans (hb.mono hW.1.size), hk, by simpa using hr⟩, fun hr => ⟨hW.1.trans (hb.mono hW.1.size), allT_take hk hW.2 (by simpa using hr)⟩⟩)
      ⟨Below.refl _ _, by simp⟩
    replace h5 := Lib.hid h5
    go_wp2_with fail
    refine h5.out.mono ?_
    rintro e w3 (⟨k, hk, rfl, hb3, hk2, hno⟩ | ⟨rfl, hb3, hall⟩)
    · have HN := Lib.hid (allT_no (f := betw b j) hk hno)
      have B4 := Lib.hid (B3.out.trans (hb3.mono B3.out.size))
      clear hno hb3
      go_wp2_with fail
      go_ret
      exact ⟨by rw [HN.out]; rfl, B4.out⟩
    · have HN := Lib.hid (allT_yes (f := betw b j) hall)
      have B4 := Lib.hid (B3.out.trans (hb3.mono B3.out.size))
      clear hall hb3
      go_wp2_with fail
      go_ret
      exact ⟨by rw [HN.out]; rfl, B4.out⟩

end Go.Proofs.Ytbnebghpakllpaa
