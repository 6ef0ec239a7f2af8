/- The drawn programs that end: valid, at most 22 instructions. -/
import Derived.Test.YtceicbncnhmkoaaDoorBody
import Derived.Test.YtceicbncnhmkoaaDoorDraw2
namespace Go.Proofs.YtceicbncnhmkoaaDoor
open Go.RowKit Go

theorem body_any : ∀ (D : Nat), D ≤ 2 → ∀ (base B : Nat) (W w : World) (v : Value) (n : Nat) (p : List I4), QS base B W w v n p → Calls Tryd.prog 53 #[.pointer (some ⟨B, 0, none⟩), v, .int .i64 D] w (BodySaid base B W p n D)
  | 0, h, base, B, W, w, v, n, p, hq => body_step 0 h (fun D' e => by omega) base B W w v n p hq
  | D + 1, h, base, B, W, w, v, n, p, hq => body_step (D + 1) h (fun D' e => by
      obtain rfl : D = D' := by omega
      exact body_any D (by omega)) base B W w v n p hq

theorem flat_set4 (p1 p2 : List I4) (i j : I4) : ((((flat (p1 ++ i :: p2)).set (p1.length * 4) j.o).set (p1.length * 4 + 1) j.a).set (p1.length * 4 + 2) j.b).set (p1.length * 4 + 3) j.c = flat (p1 ++ j :: p2) := by
  rw [flat_append, flat_append]
  show ((((flat p1 ++ (i.o :: i.a :: i.b :: i.c :: flat p2)).set _ _).set _ _).set _ _).set _ _ = _
  rw [set4 _ _ _ _ _ _ _ _ _ _ _ (flat_len p1)]
  rfl

/-- Behind a store of a whole instruction. -/
theorem QS.put {base B : Nat} {W w : World} {g cap n : Nat} {p : List I4} (h : QS base B W w (.slice (some ⟨g, 0, none⟩) n cap) n p) (k : Nat) (hk : k < n) (j : I4) (hj : okI n j = true) :
    ∃ p', QS base B W ((((w.setCell ⟨g, k * 4, none⟩ (.int .i64 j.o)).setCell ⟨g, k * 4 + 1, none⟩ (.int .i64 j.a)).setCell ⟨g, k * 4 + 2, none⟩ (.int .i64 j.b)).setCell ⟨g, k * 4 + 3, none⟩ (.int .i64 j.c)) (.slice (some ⟨g, 0, none⟩) n cap) n p' := by
  have hk2 : k < p.length := by rw [h.len]; exact hk
  have hp : p = p.take k ++ p[k] :: p.drop (k + 1) := by rw [List.getElem_cons_drop, List.take_append_drop]
  have hl : (p.take k).length = k := by rw [List.length_take]; omega
  refine ⟨p.take k ++ j :: p.drop (k + 1), ?_⟩
  have hg := (World.ownsRow.lt h.own g rfl).1
  have hb := h.base.2.2
  have hgr : w.grownBy ((((w.setCell ⟨g, k * 4, none⟩ (.int .i64 j.o)).setCell ⟨g, k * 4 + 1, none⟩ (.int .i64 j.a)).setCell ⟨g, k * 4 + 2, none⟩ (.int .i64 j.b)).setCell ⟨g, k * 4 + 3, none⟩ (.int .i64 j.c)) (some g) :=
    grownBy_trans (grownBy_trans (grownBy_trans (grownBy_setCell _ ⟨g, k * 4, none⟩ _) (grownBy_setCell _ ⟨g, k * 4 + 1, none⟩ _)) (grownBy_setCell _ ⟨g, k * 4 + 2, none⟩ _)) (grownBy_setCell _ ⟨g, k * 4 + 3, none⟩ _)
  have hown := OwnP.stored4 h.own (k * 4) j.o j.a j.b j.c
  have hfl : ((((flat p).set (k * 4) j.o).set (k * 4 + 1) j.a).set (k * 4 + 2) j.b).set (k * 4 + 3) j.c = flat (p.take k ++ j :: p.drop (k + 1)) := by
    have h4 := flat_set4 (p.take k) (p.drop (k + 1)) p[k] j
    rw [hl, ← hp] at h4
    exact h4
  rw [hfl] at hown
  refine ⟨h.cur.kept hgr (fun m e => by cases e; omega), hown, h.bel.grown hgr h.base.1 (fun m e => by cases e; omega), ?_, fun i hi => ?_, h.le⟩
  · rw [← h.len]; rw [List.length_append, hl, List.length_cons, List.length_drop]; omega
  · rcases List.mem_append.1 hi with hi | hi
    · exact h.ok i (List.mem_of_mem_take hi)
    · rcases List.mem_cons.1 hi with rfl | hi
      · exact hj
      · exact h.ok i (List.mem_of_mem_drop hi)
theorem QS.cell4 {base B : Nat} {W w : World} {v : Value} {n : Nat} {p : List I4} (h : QS base B W w v n p) (k : Nat) (hk : k < n) : ∃ g cap, v = .slice (some ⟨g, 0, none⟩) n cap ∧ (∃ x, At4 w g (k * 4) x) ∧ ∀ j, w.frozen? ⟨g, j, none⟩ = false := by
  rcases h.own.2 with ⟨_, h2⟩ | ⟨g, cap, cur, rfl, _⟩
  · omega
  · exact ⟨g, cap, rfl, OwnP.some4 h.own k hk, fun j => OwnP.frozen h.own j⟩

def QuietSaid (base B : Nat) (W : World) (e : Ending) (w' : World) : Prop := ∃ v n p, e = .returned v ∧ QS base B W w' v n p

set_option maxRecDepth 100000 in
set_option maxHeartbeats 1000000 in
theorem quiet_any (base B : Nat) (W w : World) (hc : Cur base w B) (hb : Below base W w) : Calls Tryd.prog 31 #[.pointer (some ⟨B, 0, none⟩)] w (QuietSaid base B W) := by
  have hbase : base ≤ w.heap.size := Nat.le_trans hc.1 (Nat.le_of_lt hc.lt)
  have Q0 := Lib.hid (show QS base B W (w.alloc (.cells #[] 32)) (.slice (some ⟨w.heap.size, 0, none⟩) 0 0) 0 [] from
    ⟨hc.alloc _, ownP_made w (B + 1) hc.lt, hb.alloc hbase _, rfl, (fun i hi => by cases hi), by omega⟩)
  have HB := Lib.hid (body_any 2 (Nat.le_refl _))
  clear hc hb hbase
  go_enter Tryd.func31, Tryd.ntmps31
  go_wp2_with fail
  refine (once_any _ 4 (by omega) Q0.out.cur).mono ?_
  rintro e w1 ⟨b, rfl, hc1, hg1⟩
  have Q1 := Lib.hid (Q0.out.drew hc1 hg1)
  clear hc1 hg1 Q0
  cases b with
  | true =>
    go_wp2_with fail
    refine (HB.out base B W _ _ 0 [] Q1.out).mono ?_
    rintro e w5 ⟨v5, n5, p5, rfl, _, q5, _⟩
    obtain ⟨a5, cap5, rfl⟩ := OwnP.form q5.own
    have Q5 := Lib.hid q5
    clear q5
    go_wp2_with fail
    refine (once_any _ 6 (by omega) Q5.out.cur).mono ?_
    rintro e w6 ⟨b6, rfl, hc6, hg6⟩
    have Q6 := Lib.hid (Q5.out.drew hc6 hg6)
    have h32 := Q6.out.le
    clear hc6 hg6
    cases b6 with
    | false =>
      go_wp2_with fail
      go_ret
      exact ⟨_, n5, p5, rfl, Q6.out⟩
    | true =>
      by_cases h1 : 1 < (n5 : Int)
      · go_wp2_with fail
        refine (below_any _ n5 (by omega) Q6.out.cur).mono ?_
        rintro e w7 ⟨x, ⟨hx0, _, hx1⟩, rfl, hc7, hg7⟩
        have hx1 := hx1 (by omega)
        obtain ⟨k, rfl⟩ := Int.eq_ofNat_of_zero_le hx0
        have q7 := Q6.out.drew hc7 hg7
        have hk : k < n5 := by omega
        clear hc7 hg7
        obtain ⟨g7, c7, hv7, ⟨y, d0, d1, d2, d3⟩, hf7⟩ := q7.cell4 k hk
        obtain ⟨rfl, rfl⟩ : a5 = some ⟨g7, 0, none⟩ ∧ cap5 = c7 := by injection hv7 with e1 e2 e3; exact ⟨e1, e3⟩
        clear hv7
        obtain ⟨p8, q8⟩ := q7.put k hk ⟨12, 0, 0, 0⟩ (okI_mk _ _ _ _ (ok_halt h32))
        have Q8 := Lib.hid q8
        clear q7 q8
        go_wp2_with fail
        go_ret
        exact ⟨_, n5, p8, rfl, Q8.out⟩
      · go_wp2_with fail
        go_ret
        exact ⟨_, n5, p5, rfl, Q6.out⟩
  | false =>
    go_wp2_with fail
    refine (below_any _ 2 (by omega) Q1.out.cur).mono ?_
    rintro e w2 ⟨r, ⟨hr0, _, hr1⟩, rfl, hc2, hg2⟩
    have hr1 := hr1 (by omega)
    have Q2 := Lib.hid (Q1.out.drew hc2 hg2)
    clear hc2 hg2
    have hb2 := Q2.out.base.2.1
    have HS := Lib.hid (ins_src w2 8 r 0 0 w2.heap.size rfl)
    go_upto_region 4 with (at_builtin; refine wpList_append_ownP rfl (.tmp 8) (.tmp 12) rfl (B + 1) _ 0 _ rfl (OwnP.alloc Q2.out.own _) ⟨w2.heap.size, 0, none⟩ 1 1 [8, r, 0, 0] rfl rfl HS.out (by omega) (by simp; omega) ?_; intro v3 w3 ho3 hg3)
    have Q3 := Lib.hid (Q2.out.app [⟨8, r, 0, 0⟩] _ 1 rfl ho3.out hg3.out (by intro i hi; rw [List.mem_singleton] at hi; subst hi; exact okI_mk _ _ _ _ (ok_self (by omega) (by omega) (by omega))) (by omega))
    obtain ⟨a3, cap3, rfl⟩ := OwnP.form Q3.out.own
    clear ho3 hg3
    go_wp2_with fail
    refine (HB.out base B W _ _ 1 _ Q3.out).mono ?_
    rintro e w5 ⟨v5, n5, p5, rfl, _, q5, _⟩
    obtain ⟨a5, cap5, rfl⟩ := OwnP.form q5.own
    have Q5 := Lib.hid q5
    clear q5
    go_wp2_with fail
    refine (once_any _ 6 (by omega) Q5.out.cur).mono ?_
    rintro e w6 ⟨b6, rfl, hc6, hg6⟩
    have Q6 := Lib.hid (Q5.out.drew hc6 hg6)
    have h32 := Q6.out.le
    clear hc6 hg6
    cases b6 with
    | false =>
      go_wp2_with fail
      go_ret
      exact ⟨_, n5, p5, rfl, Q6.out⟩
    | true =>
      by_cases h1 : 1 < (n5 : Int)
      · go_wp2_with fail
        refine (below_any _ n5 (by omega) Q6.out.cur).mono ?_
        rintro e w7 ⟨x, ⟨hx0, _, hx1⟩, rfl, hc7, hg7⟩
        have hx1 := hx1 (by omega)
        obtain ⟨k, rfl⟩ := Int.eq_ofNat_of_zero_le hx0
        have q7 := Q6.out.drew hc7 hg7
        have hk : k < n5 := by omega
        clear hc7 hg7
        obtain ⟨g7, c7, hv7, ⟨y, d0, d1, d2, d3⟩, hf7⟩ := q7.cell4 k hk
        obtain ⟨rfl, rfl⟩ : a5 = some ⟨g7, 0, none⟩ ∧ cap5 = c7 := by injection hv7 with e1 e2 e3; exact ⟨e1, e3⟩
        clear hv7
        obtain ⟨p8, q8⟩ := q7.put k hk ⟨12, 0, 0, 0⟩ (okI_mk _ _ _ _ (ok_halt h32))
        have Q8 := Lib.hid q8
        clear q7 q8
        go_wp2_with fail
        go_ret
        exact ⟨_, n5, p8, rfl, Q8.out⟩
      · go_wp2_with fail
        go_ret
        exact ⟨_, n5, p5, rfl, Q6.out⟩

end Go.Proofs.YtceicbncnhmkoaaDoor
