/- Drawn programs with jumps to anywhere: what is drawn is valid. -/
import Derived.Test.YtmiopbpahkgmbaaQuiet
namespace Go.Proofs.Ytmiopbpahkgmbaa
open Go.RowKit Go

/-- While a program of s instructions is drawn: the cursor, the row that the call owns, its instructions. -/
structure WS (base B s : Nat) (W w : World) (v : Value) (p : List I4) : Prop where
  cur : Cur base w B
  own : OwnP (B + 1) w v p.length (flat p)
  bel : Below base W w
  ok : ∀ i ∈ p, okI s i = true ∧ locI i = true

theorem WS.base {base B s : Nat} {W w : World} {v : Value} {p : List I4} (h : WS base B s W w v p) : base ≤ w.heap.size ∧ B < w.heap.size ∧ base ≤ B := ⟨Nat.le_trans h.cur.1 (Nat.le_of_lt h.cur.lt), h.cur.lt, h.cur.1⟩
theorem WS.drew {base B s : Nat} {W w w' : World} {v : Value} {p : List I4} (h : WS base B s W w v p) (hc : Cur base w' B) (hg : w.grownBy w' (some B)) : WS base B s W w' v p := by
  refine ⟨hc, World.ownsRow.kept h.own hg ?_, h.bel.grown hg h.base.1 (fun k e => by cases e; exact h.base.2.2), h.ok⟩
  cases hv : v.ownBlock with
  | none => exact .inl rfl
  | some g =>
    refine .inr fun e => ?_
    have := (World.ownsRow.lt h.own g hv).1
    cases e
    omega
theorem WS.alloc {base B s : Nat} {W w : World} {v : Value} {p : List I4} (h : WS base B s W w v p) (o : Obj) : WS base B s W (w.alloc o) v p :=
  ⟨h.cur.alloc o, OwnP.alloc h.own o, h.bel.alloc h.base.1 o, h.ok⟩
theorem WS.app {base B s : Nat} {W w w' : World} {v v' : Value} {p : List I4} (h : WS base B s W w v p) (i : I4) (ob : Obj)
    (ho : OwnP (B + 1) w' v' (p.length + 1) (flat p ++ [i.o, i.a, i.b, i.c])) (hg : (w.alloc ob).grownBy w' v.ownBlock) (hi : okI s i = true ∧ locI i = true) : WS base B s W w' v' (p ++ [i]) := by
  have h1 := h.alloc ob
  have hrow : ∀ k, v.ownBlock = some k → base ≤ k ∧ k ≠ B := fun k e => by
    have h2 := (World.ownsRow.lt h.own k e).1
    have h3 := h.base.2.2
    omega
  refine ⟨h1.cur.kept hg hrow, by rw [flat_append, List.length_append]; exact ho, h1.bel.grown hg h1.base.1 (fun k e => (hrow k e).1), fun j hj => ?_⟩
  rcases List.mem_append.1 hj with hj | hj
  · exact h.ok j hj
  · rw [List.mem_singleton] at hj; subst hj; exact hi

theorem ok_rng {s : Nat} {i : I4} (h : okI s i = true) : i64R i.o ∧ i64R i.a ∧ i64R i.b ∧ i64R i.c := by
  have hz : ∀ n : Int, zB n = true → i64R n := fun n h => by unfold zB at h; rw [decide_eq_true_eq] at h; subst h; unfold i64R; omega
  have hin : ∀ (n : Int) (q : Int), q ≤ 1000 → inO n 0 q = true → i64R n := fun n q hq h => by have := inO_iff.1 h; unfold i64R; omega
  unfold okI insOk at h
  split at h
  · rename_i h0
    simp only [Bool.and_eq_true] at h
    obtain ⟨⟨hA, hB⟩, hC⟩ := h
    have hs := inO_iff.1 h0.1
    refine ⟨hin _ 16 (by omega) h0.2, ?_, ?_, ?_⟩
    · unfold chA at hA
      split at hA
      · exact hz _ hA
      · exact hin _ 3 (by omega) hA
    · unfold chB at hB
      split at hB
      · have := isW_iff.1 hB; unfold i64R; omega
      · split at hB
        · exact hin _ s (by omega) hB
        · split at hB
          · exact hz _ hB
          · exact hin _ 3 (by omega) hB
    · unfold chC at hC
      split at hC
      · exact hin _ 3 (by omega) hC
      · exact hz _ hC
  · cases h
theorem flat_rng {p : List I4} (h : ∀ i ∈ p, i64R i.o ∧ i64R i.a ∧ i64R i.b ∧ i64R i.c) : ∀ x ∈ flat p, i64R x := by
  induction p with
  | nil => intro x hx; simp [flat] at hx
  | cons i p ih =>
    intro x hx
    obtain ⟨h0, h1, h2, h3⟩ := h i (by simp)
    simp only [flat, List.mem_cons] at hx
    rcases hx with rfl | rfl | rfl | rfl | hx
    · exact h0
    · exact h1
    · exact h2
    · exact h3
    · exact ih (fun j hj => h j (List.mem_cons_of_mem _ hj)) x hx
theorem progOk_rng {p : List I4} (h : progOk p = true) : ∀ x ∈ flat p, i64R x := by
  unfold progOk at h
  rw [List.all_eq_true] at h
  exact flat_rng fun i hi => ok_rng (h i hi)

def WildSaid (base B : Nat) (W : World) (e : Ending) (w' : World) : Prop := ∃ v p, e = .returned v ∧ progOk p = true ∧ p.length ≤ 8 ∧ Cur base w' B ∧ OwnP (B + 1) w' v p.length (flat p) ∧ Below base W w' ∧ p.all locI = true

def WildRel (base B s : Nat) (W : World) (v k : Value) (wr : World) : Prop :=
  ∃ p : List I4, p.length ≤ s ∧ k = .int .i64 p.length ∧ WS base B s W wr v p

theorem wild_next {base B s : Nat} {W wr : World} {v : Value} {p : List I4} {i : I4} (hl : p.length < s) (h : WS base B s W wr v (p ++ [i])) : WildRel base B s W v (.int .i64 ((p.length : Int) + 1)) wr :=
  ⟨p ++ [i], by simp; omega, by simp, h⟩

set_option maxRecDepth 100000 in
set_option maxHeartbeats 2000000 in
theorem wild_any (base B : Nat) (W w : World) (hc : Cur base w B) (hb : Below base W w) : Calls Try.prog 49 #[.pointer (some ⟨B, 0, none⟩)] w (WildSaid base B W) := by
  have hbase : base ≤ w.heap.size := Nat.le_trans hc.1 (Nat.le_of_lt hc.lt)
  have hW0 := fun s => (show WS base B s W (w.alloc (.cells #[] 33)) (.slice (some ⟨w.heap.size, 0, none⟩) 0 0) [] from
    ⟨hc.alloc _, ownP_made w (B + 1) hc.lt, hb.alloc hbase _, (fun i hi => by cases hi)⟩)
  have W0 := Lib.hid hW0
  clear hc hb hbase hW0
  go_enter Try.func49, Try.ntmps49
  go_wp2_with fail
  refine (below_any _ 9 (by omega) (W0.out 0).cur).mono ?_
  rintro e w1 ⟨s, ⟨hs0, _, hs1⟩, rfl, hc1, hg1⟩
  have hs1 := hs1 (by omega)
  obtain ⟨s, rfl⟩ := Int.eq_ofNat_of_zero_le hs0
  have W1 := Lib.hid ((W0.out s).drew hc1 hg1)
  have hs8 : s ≤ 8 := by omega
  clear hc1 hg1 W0 hs0 hs1
  go_wp2_with fail
  go_loopw [3, 5] (fun v k wr => WildRel base B s W v k wr) (fun _ k _ => s - (intOf k).toNat)
  case atStart => exact ⟨[], Nat.zero_le _, rfl, W1.out⟩
  case round =>
    obtain ⟨p, hl, rfl, hws⟩ := hrel
    have Q1 := Lib.hid hws
    obtain ⟨a, cap, rfl⟩ := OwnP.form hws.own
    clear hws
    by_cases hlt : p.length < s
    · go_wp2_with fail
      refine (below_any _ 6 (by omega) Q1.out.cur).mono ?_
      rintro e w2 ⟨y, ⟨hy0, _, hy1⟩, rfl, hc2, hg2⟩
      have hy1 := hy1 (by omega)
      have Q2 := Lib.hid (Q1.out.drew hc2 hg2)
      clear hc2 hg2
      by_cases h01 : y = 0 ∨ y = 1
      · rcases h01 with rfl | rfl
        all_goals
          go_wp2_with fail
          refine (below_any _ 4 (by omega) Q2.out.cur).mono ?_
          rintro e w3 ⟨r, ⟨hr0, _, hr1⟩, rfl, hc3, hg3⟩
          have hr1 := hr1 (by omega)
          have Q3 := Lib.hid (Q2.out.drew hc3 hg3)
          clear hc3 hg3
          go_wp2_with fail
          refine (below_any _ (s + 1) (by omega) Q3.out.cur).mono ?_
          rintro e w4 ⟨t, ⟨ht0, _, ht1⟩, rfl, hc4, hg4⟩
          have ht1 := ht1 (by omega)
          obtain ⟨t, rfl⟩ := Int.eq_ofNat_of_zero_le ht0
          have Q4 := Lib.hid (Q3.out.drew hc4 hg4)
          clear hc4 hg4
          have hb4 := Q4.out.base.2.1
          have HS4 := Lib.hid (ins_src w4 10 r t 0 w4.heap.size rfl)
          have HOK := Lib.hid (okI_mk (s := s) 10 r t 0 (ok_zero hr0 (by omega) t (by omega) (by omega)))
          go_wp2_with (at_builtin; refine wpList_append_ownP rfl (.tmp 24) (.tmp 32) rfl (B + 1) _ p.length _ rfl (OwnP.alloc Q4.out.own _) ⟨w4.heap.size, 0, none⟩ 1 1 [10, r, t, 0] rfl rfl HS4.out (by omega) (by simp; omega) ?_; intro v5 w5 ho5 hg5)
          have Q5 := Lib.hid (Q4.out.app ⟨10, r, t, 0⟩ _ ho5.out hg5.out ⟨HOK.out, rfl⟩)
          clear ho5 hg5
          go_roundw
          case rel => exact wild_next hlt Q5.out
          case measure => simp [intOf]; omega
      · by_cases h2 : y = 2
        · subst h2
          go_wp2_with fail
          refine (below_any _ (s + 1) (by omega) Q2.out.cur).mono ?_
          rintro e w4 ⟨t, ⟨ht0, _, ht1⟩, rfl, hc4, hg4⟩
          have ht1 := ht1 (by omega)
          obtain ⟨t, rfl⟩ := Int.eq_ofNat_of_zero_le ht0
          have Q4 := Lib.hid (Q2.out.drew hc4 hg4)
          clear hc4 hg4
          have hb4 := Q4.out.base.2.1
          have HS4 := Lib.hid (ins_src w4 11 0 t 0 w4.heap.size rfl)
          have HOK := Lib.hid (okI_mk (s := s) 11 0 t 0 (ok_jump t (by omega) (by omega)))
          go_wp2_with (at_builtin; refine wpList_append_ownP rfl (.tmp 36) (.tmp 42) rfl (B + 1) _ p.length _ rfl (OwnP.alloc Q4.out.own _) ⟨w4.heap.size, 0, none⟩ 1 1 [11, 0, t, 0] rfl rfl HS4.out (by omega) (by simp; omega) ?_; intro v5 w5 ho5 hg5)
          have Q5 := Lib.hid (Q4.out.app ⟨11, 0, t, 0⟩ _ ho5.out hg5.out ⟨HOK.out, rfl⟩)
          clear ho5 hg5
          go_roundw
          case rel => exact wild_next hlt Q5.out
          case measure => simp [intOf]; omega
        · by_cases h3 : y = 3
          · subst h3
            have hb4 := Q2.out.base.2.1
            have HS4 := Lib.hid (ins_src w2 12 0 0 0 w2.heap.size rfl)
            have HOK := Lib.hid (okI_mk (s := s) 12 0 0 0 (ok_halt (by omega)))
            go_wp2_with (at_builtin; refine wpList_append_ownP rfl (.tmp 46) (.tmp 48) rfl (B + 1) _ p.length _ rfl (OwnP.alloc Q2.out.own _) ⟨w2.heap.size, 0, none⟩ 1 1 [12, 0, 0, 0] rfl rfl HS4.out (by omega) (by simp; omega) ?_; intro v5 w5 ho5 hg5)
            have Q5 := Lib.hid (Q2.out.app ⟨12, 0, 0, 0⟩ _ ho5.out hg5.out ⟨HOK.out, rfl⟩)
            clear ho5 hg5
            go_roundw
            case rel => exact wild_next hlt Q5.out
            case measure => simp [intOf]; omega
          · have e0 : (y == 0) = false := by simp; omega
            have e1 : (y == 1) = false := by simp; omega
            have e2 : (y == 2) = false := by simp; omega
            have e3 : (y == 3) = false := by simp; omega
            clear h01 h2 h3
            go_wp2_with fail
            refine (plain_any _ Q2.out.cur Q2.out.base.1).mono ?_
            rintro e w3 ⟨po, pa, pb, pc, hP, rfl, hc3, hg3⟩
            have Q3 := Lib.hid (Q2.out.drew hc3 hg3)
            have HOK := Lib.hid (okI_mk (s := s) po pa pb pc (ok_plain hP (by omega)))
            have HLP := Lib.hid (show locI ⟨po, pa, pb, pc⟩ = true from inO_yes (by have := hP.1; show (0 : Int) ≤ po; omega) (by have := hP.2.1; show po ≤ 12; omega))
            clear hc3 hg3 hP
            have hb4 := Q3.out.base.2.1
            have HS4 := Lib.hid (ins_src w3 po pa pb pc w3.heap.size rfl)
            go_wp2_with (at_builtin; refine wpList_append_ownP rfl (.tmp 16) (.tmp 19) rfl (B + 1) _ p.length _ rfl (OwnP.alloc Q3.out.own _) ⟨w3.heap.size, 0, none⟩ 1 1 [po, pa, pb, pc] rfl rfl HS4.out (by omega) (by simp; omega) ?_; intro v5 w5 ho5 hg5)
            have Q5 := Lib.hid (Q3.out.app ⟨po, pa, pb, pc⟩ _ ho5.out hg5.out ⟨HOK.out, HLP.out⟩)
            clear ho5 hg5
            go_roundw
            case rel => exact wild_next hlt Q5.out
            case measure => simp [intOf]; omega
    · have hps : s = p.length := by omega
      have HPS := Lib.hid hps
      clear hps
      go_wp2_with fail
      go_ret
      refine ⟨_, p, rfl, ?_, by omega, Q1.out.cur, Q1.out.own, Q1.out.bel, List.all_eq_true.2 fun i hi => (Q1.out.ok i hi).2⟩
      unfold progOk
      rw [List.all_eq_true, ← HPS.out]
      exact fun i hi => (Q1.out.ok i hi).1

/-- A drawn program. -/
def DrawnP (w : World) (m : Nat) (e : Ending) (w' : World) : Prop :=
  ∃ (a : Option Addr) (cap : Nat) (p : List I4), e = .returned (.slice a p.length cap) ∧ progOk p = true ∧ p.length ≤ m ∧ OwnP w.heap.size w' (.slice a p.length cap) p.length (flat p) ∧ Below w.heap.size w w'

theorem drawWild_any (w : World) (a : Option Addr) (len cap : Nat) (hl : len ≤ maxLen) (hb : Bytes w.heap.size w a len) : Calls Try.prog 26 #[.slice a len cap] w (DrawnP w 8) := by
  have h1 := Lib.hid (new_any w a len cap hl hb)
  clear hl hb
  go_enter Try.func26, Try.ntmps26
  go_wp2_with fail
  refine h1.out.mono ?_
  rintro e w1 ⟨B, rfl, hc, b1⟩
  go_wp2_with fail
  refine (wild_any w.heap.size B w w1 hc b1).mono ?_
  rintro e w2 ⟨v, p, rfl, hp, h8, hc2, ho, hb2, _⟩
  obtain ⟨a2, cap2, rfl⟩ := OwnP.form ho
  have HO := Lib.hid (OwnP.base ho (show w.heap.size ≤ B + 1 by have := hc.1; omega))
  clear ho
  go_wp2_with fail
  go_ret
  exact ⟨a2, cap2, p, rfl, hp, h8, HO.out, hb2⟩

end Go.Proofs.Ytmiopbpahkgmbaa
