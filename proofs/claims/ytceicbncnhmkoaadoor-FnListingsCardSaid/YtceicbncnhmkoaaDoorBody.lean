/- The drawn body of a program: what it appends is valid. -/
import Derived.Test.YtceicbncnhmkoaaDoorQuiet
import Derived.Deep.Cut
namespace Go.Proofs.YtceicbncnhmkoaaDoor
open Go.RowKit Go

def BodySaid (base B : Nat) (W : World) (p : List I4) (n D : Nat) (e : Ending) (w' : World) : Prop :=
  ∃ v' n' p', e = .returned v' ∧ (∃ r, p' = p ++ r) ∧ QS base B W w' v' n' p' ∧ (n' ≤ n ∨ n' ≤ 20 + D)

/-- What holds in the body's loop. -/
def BodyRel (base B : Nat) (W : World) (p : List I4) (n D : Nat) (v k : Value) (wr : World) : Prop :=
  ∃ (a : Option Addr) (cap n' : Nat) (p' : List I4) (k' : Int), v = .slice a n' cap ∧ k = .int .i64 k' ∧ 0 ≤ k' ∧ k' ≤ 3 ∧ Hid (∃ r, p' = p ++ r) ∧ Hid (QS base B W wr v n' p') ∧ (n' ≤ n ∨ n' ≤ 20 + D)

set_option maxRecDepth 100000 in
set_option maxHeartbeats 4000000 in
theorem body_step (D : Nat) (hD : D ≤ 2) (IH : ∀ (D' : Nat), D = D' + 1 → ∀ (base B : Nat) (W w : World) (v : Value) (n : Nat) (p : List I4), QS base B W w v n p → Calls Tryd.prog 53 #[.pointer (some ⟨B, 0, none⟩), v, .int .i64 D'] w (BodySaid base B W p n D'))
    (base B : Nat) (W w : World) (v : Value) (n : Nat) (p : List I4) (hq : QS base B W w v n p) : Calls Tryd.prog 53 #[.pointer (some ⟨B, 0, none⟩), v, .int .i64 D] w (BodySaid base B W p n D) := by
  obtain ⟨a, cap, rfl⟩ := OwnP.form hq.own
  have HQ := Lib.hid hq
  have HIH := Lib.hid IH
  clear hq IH
  go_enter Tryd.func53, Tryd.ntmps53
  go_wp2_with fail
  refine (below_any _ 4 (by omega) HQ.out.cur).mono ?_
  rintro e w1 ⟨k0, ⟨hk0, _, hk1⟩, rfl, hc1, hg1⟩
  have hk1 := hk1 (by omega)
  have Q1 := Lib.hid (HQ.out.drew hc1 hg1)
  clear hc1 hg1
  go_wp2_with fail
  go_loopw [1, 7] (fun v k wr => BodyRel base B W p n D v k wr) (fun _ k _ => (intOf k).toNat)
  case atStart => exact ⟨a, cap, n, p, k0, rfl, rfl, hk0, by omega, ⟨[], by simp⟩, Q1.out, .inl (Nat.le_refl _)⟩
  case round =>
    obtain ⟨a, cap, n', p', k', rfl, rfl, hk0, hk3, HE, HQ', hn⟩ := hrel
    clear Q1 HQ
    by_cases hkp : 0 < k'
    · by_cases h20 : (n' : Int) < 20
      · have hwk : IntKind.i64.wrap (k' - 1) = k' - 1 := IntWalk.i64_in _ (by omega)
        go_wp2_with fail
        refine (below_any _ 5 (by omega) HQ'.out.cur).mono ?_
        rintro e w2 ⟨y, ⟨hy0, _, hy1⟩, rfl, hc2, hg2⟩
        have hy1 := hy1 (by omega)
        have Q2 := Lib.hid (HQ'.out.drew hc2 hg2)
        clear hc2 hg2
        by_cases h0 : y = 0
        · subst h0
          by_cases hd0 : D = 0
          · subst hd0
            go_wp2_with fail
            go_roundw
            case rel => first | exact ⟨a, cap, n', p', k' - 1, rfl, by go_num, by omega, by omega, HE.out, Q2.out, hn⟩ | ((repeat apply Exists.intro); exact ⟨⟨a, cap, n', p', k' - 1, rfl, by go_num, by omega, by omega, HE.out, Q2.out, hn⟩, rfl⟩)
            case measure => simp [intOf]; omega
          · have hdd : ((D : Int) == 0) = false := by simp; exact hd0
            obtain ⟨d, hd⟩ : ∃ d, D = d + 1 := ⟨D - 1, by omega⟩
            have hwd : IntKind.i64.wrap ((D : Int) - 1) = (d : Int) := by rw [IntWalk.i64_in _ (by omega)]; omega
            have HR := Lib.hid (HIH.out d hd)
            have hd1 : d ≤ 1 := by omega
            have HD := Lib.hid hd
            clear hd
            go_wp2_with fail
            refine (below_any _ 4 (by omega) Q2.out.cur).mono ?_
            rintro e w3 ⟨r, ⟨hr0, _, hr1⟩, rfl, hc3, hg3⟩
            have hr1 := hr1 (by omega)
            have Q3 := Lib.hid (Q2.out.drew hc3 hg3)
            clear hc3 hg3
            obtain ⟨n4, hn4⟩ : ∃ n4, n4 = n' + 1 := ⟨_, rfl⟩
            have hb4 := Q3.out.base.2.1
            have HS4 := Lib.hid (ins_src w3 10 r 0 0 w3.heap.size rfl)
            go_wp2_with (at_builtin; refine wpList_append_ownP rfl (.tmp 38) (.tmp 41) rfl (B + 1) _ n' _ rfl (OwnP.alloc Q3.out.own _) ⟨w3.heap.size, 0, none⟩ 1 1 [10, r, 0, 0] rfl rfl HS4.out (by omega) (by simp; omega) ?_; intro v4 w4 ho4 hg4)
            have Q4 := Lib.hid (Q3.out.app [⟨10, r, 0, 0⟩] _ n4 hn4 ho4.out hg4.out (by intro i hi; rw [List.mem_singleton] at hi; subst hi; exact okI_mk _ _ _ _ (ok_zero hr0 (by omega) 0 (by omega) (by omega))) (by omega))
            obtain ⟨a4, cap4, rfl⟩ := OwnP.form Q4.out.own
            have HN4 := Lib.hid hn4
            have hle4 : n4 ≤ 32 := Q4.out.le
            clear ho4 hg4 hn4
            go_wp2_with fail
            refine (HR.out base B W _ _ n4 _ Q4.out).mono ?_
            rintro e w5 ⟨v5, n5, p5, rfl, ⟨r5, hr5⟩, q5, hn5⟩
            have hn5' : n5 ≤ 20 + d := by have := HN4.out; omega
            have hp5 : p5 = p' ++ ⟨10, r, 0, 0⟩ :: r5 := by rw [hr5]; simp
            subst hp5
            have hpl : p'.length = n' := Q3.out.len
            have hlt5 : n' < n5 := by have := q5.len; rw [List.length_append, List.length_cons, hpl] at this; omega
            have HPL := Lib.hid hpl
            clear hr5 hn5 hpl
            obtain ⟨g5, cap5, rfl, ⟨x5, hx5⟩, hf5⟩ := q5.cell n' hlt5
            have Q5 := Lib.hid q5
            clear q5
            go_wp2_with fail
            refine (once_any _ 2 (by omega) Q5.out.cur).mono ?_
            rintro e w6 ⟨b, rfl, hc6, hg6⟩
            have q6 := Q5.out.drew hc6 hg6
            have Q6 := Lib.hid q6
            clear hc6 hg6 hx5 hf5
            obtain ⟨g6, cap6, hv6, ⟨x6, hx6⟩, hf6⟩ := q6.cell n' hlt5
            obtain ⟨rfl, rfl⟩ : g5 = g6 ∧ cap5 = cap6 := by injection hv6 with e1 e2 e3; injection e1 with e1; injection e1 with e1; exact ⟨e1, e3⟩
            clear hv6 q6
            cases b with
            | true =>
              have Q7 := Lib.hid (Q6.out.target (.inl rfl) n5 (Nat.le_refl _) n' HPL.out.symm)
              go_wp2_with fail
              go_roundw
              case rel => first | exact ⟨_, cap5, n5, _, k' - 1, rfl, by go_num, by omega, by omega, (by obtain ⟨r0, h0⟩ := HE.out; exact ⟨r0 ++ ⟨10, r, n5, 0⟩ :: r5, by rw [h0]; simp⟩), Q7.out, .inr (by have := HD.out; omega)⟩ | ((repeat apply Exists.intro); exact ⟨⟨_, cap5, n5, _, k' - 1, rfl, by go_num, by omega, by omega, (by obtain ⟨r0, h0⟩ := HE.out; exact ⟨r0 ++ ⟨10, r, n5, 0⟩ :: r5, by rw [h0]; simp⟩), Q7.out, .inr (by have := HD.out; omega)⟩, rfl⟩)
              case measure => simp [intOf]; omega
            | false =>
              obtain ⟨n7, hn7⟩ : ∃ n7, n7 = n5 + 1 := ⟨_, rfl⟩
              have hb7 := Q6.out.base.2.1
              have HS7 := Lib.hid (ins_src w6 11 0 0 0 w6.heap.size rfl)
              go_wp2_with (at_builtin; refine wpList_append_ownP rfl (.tmp 58) (.tmp 60) rfl (B + 1) _ n5 _ rfl (OwnP.alloc Q6.out.own _) ⟨w6.heap.size, 0, none⟩ 1 1 [11, 0, 0, 0] rfl rfl HS7.out (by omega) (by simp; omega) ?_; intro v7 w7 ho7 hg7)
              have Q7 := Lib.hid (Q6.out.app [⟨11, 0, 0, 0⟩] _ n7 hn7 ho7.out hg7.out (by intro i hi; rw [List.mem_singleton] at hi; subst hi; exact okI_mk _ _ _ _ (ok_jump 0 (by omega) (by omega))) (by omega))
              obtain ⟨a7, cap7, rfl⟩ := OwnP.form Q7.out.own
              have HN7 := Lib.hid hn7
              have hle7 : n7 ≤ 32 := Q7.out.le
              clear ho7 hg7 hn7
              have q7 : QS base B W w7 (.slice a7 n7 cap7) n7 (p' ++ ⟨10, r, 0, 0⟩ :: (r5 ++ [⟨11, 0, 0, 0⟩])) := by have := Q7.out; simpa using this
              have hlt7 : n' < n7 := by have := HN7.out; omega
              obtain ⟨g7, c7, hv7, ⟨x7, hx7⟩, hf7⟩ := q7.cell n' hlt7
              obtain ⟨rfl, rfl⟩ : a7 = some ⟨g7, 0, none⟩ ∧ cap7 = c7 := by injection hv7 with e1 e2 e3; exact ⟨e1, e3⟩
              clear hv7
              have Q8 := Lib.hid (q7.target (.inl rfl) n7 (Nat.le_refl _) n' HPL.out.symm)
              clear q7
              go_wp2_with fail
              refine (HR.out base B W _ _ n7 _ Q8.out).mono ?_
              rintro e w9 ⟨v9, n9, p9, rfl, ⟨r9, hr9⟩, q9, hn9⟩
              have hn9' : n9 ≤ 21 + d := by have := HN7.out; omega
              have hp9 : p9 = (p' ++ ⟨10, r, n7, 0⟩ :: r5) ++ ⟨11, 0, 0, 0⟩ :: r9 := by rw [hr9]; simp
              subst hp9
              have hl5 : (p' ++ (⟨10, r, n7, 0⟩ : I4) :: r5).length = n5 := by have := Q6.out.len; rw [List.length_append, List.length_cons] at this ⊢; exact this
              have hlt9 : n5 < n9 := by have := q9.len; rw [List.length_append, hl5, List.length_cons] at this; omega
              obtain ⟨g9, c9, rfl, ⟨x9, hx9⟩, hf9⟩ := q9.cell n5 hlt9
              have Q10 := Lib.hid (q9.target (.inr rfl) n9 (Nat.le_refl _) n5 hl5.symm)
              clear q9 hr9 hn9 hl5 hx7 hf7 hx6 hf6
              go_wp2_with fail
              go_roundw
              case rel => first | exact ⟨_, c9, n9, _, k' - 1, rfl, by go_num, by omega, by omega, (by obtain ⟨r0, h0⟩ := HE.out; exact ⟨r0 ++ (⟨10, r, n7, 0⟩ :: r5) ++ ⟨11, 0, n9, 0⟩ :: r9, by rw [h0]; simp⟩), Q10.out, .inr (by have := HD.out; omega)⟩ | ((repeat apply Exists.intro); exact ⟨⟨_, c9, n9, _, k' - 1, rfl, by go_num, by omega, by omega, (by obtain ⟨r0, h0⟩ := HE.out; exact ⟨r0 ++ (⟨10, r, n7, 0⟩ :: r5) ++ ⟨11, 0, n9, 0⟩ :: r9, by rw [h0]; simp⟩), Q10.out, .inr (by have := HD.out; omega)⟩, rfl⟩)
              case measure => simp [intOf]; omega
        · by_cases h1 : y = 1
          · subst h1
            by_cases hd0 : D = 0
            · subst hd0
              go_wp2_with fail
              go_roundw
              case rel => first | exact ⟨a, cap, n', p', k' - 1, rfl, by go_num, by omega, by omega, HE.out, Q2.out, hn⟩ | ((repeat apply Exists.intro); exact ⟨⟨a, cap, n', p', k' - 1, rfl, by go_num, by omega, by omega, HE.out, Q2.out, hn⟩, rfl⟩)
              case measure => simp [intOf]; omega
            · have hdd : ((D : Int) == 0) = false := by simp; exact hd0
              by_cases h14 : (14 : Int) < n'
              · go_wp2_with fail
                go_roundw
                case rel => first | exact ⟨a, cap, n', p', k' - 1, rfl, by go_num, by omega, by omega, HE.out, Q2.out, hn⟩ | ((repeat apply Exists.intro); exact ⟨⟨a, cap, n', p', k' - 1, rfl, by go_num, by omega, by omega, HE.out, Q2.out, hn⟩, rfl⟩)
                case measure => simp [intOf]; omega
              · have h14d : decide ((14 : Int) < (n' : Int)) = false := by simp; omega
                obtain ⟨n3, hn3⟩ : ∃ n3, n3 = n' + 1 := ⟨_, rfl⟩
                have hb3 := Q2.out.base.2.1
                have HS3 := Lib.hid (ins_src w2 8 3 0 0 w2.heap.size rfl)
                go_upto_region 22 with (at_builtin; refine wpList_append_ownP rfl (.tmp 88) (.tmp 90) rfl (B + 1) _ n' _ rfl (OwnP.alloc Q2.out.own _) ⟨w2.heap.size, 0, none⟩ 1 1 [8, 3, 0, 0] rfl rfl HS3.out (by omega) (by simp; omega) ?_; intro v3 w3 ho3 hg3)
                have Q3 := Lib.hid (Q2.out.app [⟨8, 3, 0, 0⟩] _ n3 hn3 ho3.out hg3.out (by intro i hi; rw [List.mem_singleton] at hi; subst hi; exact okI_mk _ _ _ _ (ok_self (by omega) (by omega) (by omega))) (by omega))
                obtain ⟨a3, cap3, rfl⟩ := OwnP.form Q3.out.own
                have HN3 := Lib.hid hn3
                have hle3 : n3 ≤ 32 := Q3.out.le
                have hup3 : n3 ≤ n' + 1 := by have := HN3.out; omega
                clear ho3 hg3 hn3
                obtain ⟨n4, hn4⟩ : ∃ n4, n4 = n3 + 1 := ⟨_, rfl⟩
                have hb4 := Q3.out.base.2.1
                have HS4 := Lib.hid (ins_src w3 10 3 0 0 w3.heap.size rfl)
                go_upto_region 24 with (at_builtin; refine wpList_append_ownP rfl (.tmp 94) (.tmp 96) rfl (B + 1) _ n3 _ rfl (OwnP.alloc Q3.out.own _) ⟨w3.heap.size, 0, none⟩ 1 1 [10, 3, 0, 0] rfl rfl HS4.out (by omega) (by simp; omega) ?_; intro v4 w4 ho4 hg4)
                have Q4 := Lib.hid (Q3.out.app [⟨10, 3, 0, 0⟩] _ n4 hn4 ho4.out hg4.out (by intro i hi; rw [List.mem_singleton] at hi; subst hi; exact okI_mk _ _ _ _ (ok_zero (by omega) (by omega) 0 (by omega) (by omega))) (by omega))
                obtain ⟨a4, cap4, rfl⟩ := OwnP.form Q4.out.own
                have HN4 := Lib.hid hn4
                have hle4 : n4 ≤ 32 := Q4.out.le
                have hup4 : n4 ≤ n3 + 1 := by have := HN4.out; omega
                clear ho4 hg4 hn4
                obtain ⟨n5, hn5⟩ : ∃ n5, n5 = n4 + 3 := ⟨_, rfl⟩
                have hb5 := Q4.out.base.2.1
                have HS5 := Lib.hid (lit_src w4 [3, 0, 0, 1, 1, 2, 1, 0, 4, 3, 3, 2] w4.heap.size rfl)
                go_upto_region 25 with (at_builtin; refine wpList_append_ownP rfl (.tmp 98) (.tmp 102) rfl (B + 1) _ n4 _ rfl (OwnP.alloc Q4.out.own _) ⟨w4.heap.size, 0, none⟩ 3 3 [3, 0, 0, 1, 1, 2, 1, 0, 4, 3, 3, 2] rfl rfl HS5.out (by omega) (by simp; omega) ?_; intro v5 w5 ho5 hg5)
                have Q5 := Lib.hid (Q4.out.app [⟨3, 0, 0, 1⟩, ⟨1, 2, 1, 0⟩, ⟨4, 3, 3, 2⟩] _ n5 hn5 ho5.out hg5.out (ok_three (by omega)) (by omega))
                obtain ⟨a5, cap5, rfl⟩ := OwnP.form Q5.out.own
                have HN5 := Lib.hid hn5
                have hle5 : n5 ≤ 32 := Q5.out.le
                have hup5 : n5 ≤ n4 + 3 := by have := HN5.out; omega
                clear ho5 hg5 hn5
                obtain ⟨n6, hn6⟩ : ∃ n6, n6 = n5 + 1 := ⟨_, rfl⟩
                have hb6 := Q5.out.base.2.1
                have HS6 := Lib.hid (ins_src w5 11 0 n3 0 w5.heap.size rfl)
                go_upto_region 26 with (at_builtin; refine wpList_append_ownP rfl (.tmp 104) (.tmp 107) rfl (B + 1) _ n5 _ rfl (OwnP.alloc Q5.out.own _) ⟨w5.heap.size, 0, none⟩ 1 1 [11, 0, (n3 : Int), 0] rfl rfl HS6.out (by omega) (by simp; omega) ?_; intro v6 w6 ho6 hg6)
                have Q6 := Lib.hid (Q5.out.app [⟨11, 0, n3, 0⟩] _ n6 hn6 ho6.out hg6.out (by intro i hi; rw [List.mem_singleton] at hi; subst hi; exact okI_mk _ _ _ _ (ok_jump n3 (by have := HN4.out; have := HN5.out; omega) (by omega))) (by omega))
                obtain ⟨a6, cap6, rfl⟩ := OwnP.form Q6.out.own
                have HN6 := Lib.hid hn6
                have hle6 : n6 ≤ 32 := Q6.out.le
                have hup6 : n6 ≤ n5 + 1 := by have := HN6.out; omega
                clear ho6 hg6 hn6
                have q6 : QS base B W w6 (.slice a6 n6 cap6) n6 ((p' ++ [⟨8, 3, 0, 0⟩]) ++ ⟨10, 3, 0, 0⟩ :: [⟨3, 0, 0, 1⟩, ⟨1, 2, 1, 0⟩, ⟨4, 3, 3, 2⟩, ⟨11, 0, n3, 0⟩]) := by have := Q6.out; simpa using this
                have hlt6 : n3 < n6 := by have := HN4.out; have := HN5.out; have := HN6.out; omega
                have hn6' : n6 ≤ 20 + D := by have := HN3.out; have := HN4.out; have := HN5.out; have := HN6.out; omega
                obtain ⟨g6, c6, hv6, ⟨x6, hx6⟩, hf6⟩ := q6.cell n3 hlt6
                obtain ⟨rfl, rfl⟩ : a6 = some ⟨g6, 0, none⟩ ∧ cap6 = c6 := by injection hv6 with e1 e2 e3; exact ⟨e1, e3⟩
                clear hv6
                have Q7 := Lib.hid (q6.target (.inl rfl) n6 (Nat.le_refl _) n3 Q3.out.len.symm)
                clear q6
                go_wp2_with fail
                go_roundw
                case rel => first | exact ⟨_, cap6, n6, _, k' - 1, rfl, by go_num, by omega, by omega, (by obtain ⟨r0, h0⟩ := HE.out; exact ⟨r0 ++ (⟨8, 3, 0, 0⟩ :: ⟨10, 3, n6, 0⟩ :: [⟨3, 0, 0, 1⟩, ⟨1, 2, 1, 0⟩, ⟨4, 3, 3, 2⟩, ⟨11, 0, n3, 0⟩]), by rw [h0]; simp⟩), Q7.out, .inr hn6'⟩ | ((repeat apply Exists.intro); exact ⟨⟨_, cap6, n6, _, k' - 1, rfl, by go_num, by omega, by omega, (by obtain ⟨r0, h0⟩ := HE.out; exact ⟨r0 ++ (⟨8, 3, 0, 0⟩ :: ⟨10, 3, n6, 0⟩ :: [⟨3, 0, 0, 1⟩, ⟨1, 2, 1, 0⟩, ⟨4, 3, 3, 2⟩, ⟨11, 0, n3, 0⟩]), by rw [h0]; simp⟩), Q7.out, .inr hn6'⟩, rfl⟩)
                case measure => simp [intOf]; omega
          · have e0 : (y == 0) = false := by simpa using h0
            have e1 : (y == 1) = false := by simpa using h1
            go_wp2_with fail
            refine (plain_any _ Q2.out.cur Q2.out.base.1).mono ?_
            rintro e w3 ⟨po, pa, pb, pc, hP, rfl, hc3, hg3⟩
            have Q3 := Lib.hid (Q2.out.drew hc3 hg3)
            have HP := Lib.hid hP
            clear hc3 hg3 hP
            obtain ⟨n4, hn4⟩ : ∃ n4, n4 = n' + 1 := ⟨_, rfl⟩
            have hb4 := Q3.out.base.2.1
            have HS4 := Lib.hid (ins_src w3 po pa pb pc w3.heap.size rfl)
            go_wp2_with (at_builtin; refine wpList_append_ownP rfl (.tmp 25) (.tmp 28) rfl (B + 1) _ n' _ rfl (OwnP.alloc Q3.out.own _) ⟨w3.heap.size, 0, none⟩ 1 1 [po, pa, pb, pc] rfl rfl HS4.out (by omega) (by simp; omega) ?_; intro v4 w4 ho4 hg4)
            have Q4 := Lib.hid (Q3.out.app [⟨po, pa, pb, pc⟩] _ n4 hn4 ho4.out hg4.out (by intro i hi; rw [List.mem_singleton] at hi; subst hi; exact okI_mk _ _ _ _ (ok_plain HP.out (by omega))) (by omega))
            obtain ⟨a4, cap4, rfl⟩ := OwnP.form Q4.out.own
            have HN4 := Lib.hid hn4
            have hle4 : n4 ≤ 32 := Q4.out.le
            clear ho4 hg4 hn4
            have hn4' : n4 ≤ 20 + D := by have := HN4.out; omega
            go_roundw
            case rel => first | exact ⟨a4, cap4, n4, _, k' - 1, rfl, by go_num, by omega, by omega, (by obtain ⟨r0, h0⟩ := HE.out; exact ⟨r0 ++ [⟨po, pa, pb, pc⟩], by rw [h0]; simp⟩), Q4.out, .inr hn4'⟩ | ((repeat apply Exists.intro); exact ⟨⟨a4, cap4, n4, _, k' - 1, rfl, by go_num, by omega, by omega, (by obtain ⟨r0, h0⟩ := HE.out; exact ⟨r0 ++ [⟨po, pa, pb, pc⟩], by rw [h0]; simp⟩), Q4.out, .inr hn4'⟩, rfl⟩)
            case measure => simp [intOf]; omega
      · go_wp2_with fail
        go_ret
        exact ⟨_, n', p', rfl, HE.out, HQ'.out, hn⟩
    · go_wp2_with fail
      go_ret
      exact ⟨_, n', p', rfl, HE.out, HQ'.out, hn⟩

end Go.Proofs.YtceicbncnhmkoaaDoor
