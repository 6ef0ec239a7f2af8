/- Ways that pass a node nowhere: the program's search, a closure that calls itself and marks the nodes that it has visited. -/
import Derived.Test.YtbnebghpakllpaaPass
import Derived.Test.YtbnebghpakllpaaAfterT
import Derived.Deep.RegionHeld3
import Derived.Shelf.Abstract
namespace Go.Proofs.Ytbnebghpakllpaa
open Go.RowKit Go

/-- Some nodes have been visited, and none of them led to the exit: the marks ahead and behind. -/
structure Dfs (p : List I4) (c : Int) (us : List Int) (bs bs' : List Bool) : Prop where
  len : bs'.length = bs.length
  mono : ∀ k, bs.getD k false = true → bs'.getD k false = true
  new : ∀ k : Nat, bs'.getD k false = true → bs.getD k false = true ∨ (k ≠ p.length ∧ ∀ m : Nat, (m : Int) ∈ nextL p k → (m : Int) ≠ c → bs'.getD m false = true)
  start : ∀ u : Nat, (u : Int) ∈ us → (u : Int) ≠ c → bs'.getD u false = true
  count : bs.count true ≤ bs'.count true

theorem Dfs.nil (p : List I4) (c : Int) (bs : List Bool) : Dfs p c [] bs bs :=
  ⟨rfl, fun _ h => h, fun _ h => .inl h, fun _ h => by simp at h, Nat.le_refl _⟩
theorem Dfs.old {p : List I4} {c : Int} {bs : List Bool} {k : Nat} (h : (k : Int) = c ∨ bs.getD k false = true) : Dfs p c [(k : Int)] bs bs := by
  refine ⟨rfl, fun _ h => h, fun _ h => .inl h, fun u hu hc => ?_, Nat.le_refl _⟩
  rw [List.mem_singleton] at hu
  obtain rfl : u = k := by omega
  exact h.resolve_left hc
theorem Dfs.snoc {p : List I4} {c u : Int} {us : List Int} {b0 b1 b2 : List Bool} (h1 : Dfs p c us b0 b1) (h2 : Dfs p c [u] b1 b2) : Dfs p c (us ++ [u]) b0 b2 := by
  refine ⟨h2.len.trans h1.len, fun k hk => h2.mono k (h1.mono k hk), fun k hk => ?_, fun m hm hc => ?_, Nat.le_trans h1.count h2.count⟩
  · rcases h2.new k hk with h | h
    · rcases h1.new k h with h | ⟨h, hn⟩
      · exact .inl h
      · exact .inr ⟨h, fun m hm hc => h2.mono m (hn m hm hc)⟩
    · exact .inr h
  · rcases List.mem_append.1 hm with h | h
    · exact h2.mono m (h1.start m h hc)
    · exact h2.start m h hc
theorem Dfs.node {p : List I4} {c : Int} {bs bs' : List Bool} {k : Nat} (hk : k < bs.length) (hb : bs.getD k false = false) (hx : k ≠ p.length) (h : Dfs p c (nextL p k) (bs.set k true) bs') : Dfs p c [(k : Int)] bs bs' := by
  have hkk : (bs.set k true).getD k false = true := by rw [getD_set hk, if_pos rfl]
  refine ⟨h.len.trans (List.length_set ..), fun j hj => h.mono j ?_, fun j hj => ?_, fun u hu _ => ?_, ?_⟩
  · rw [getD_set hk]
    split
    · rfl
    · exact hj
  · rcases h.new j hj with h1 | h1
    · rw [getD_set hk] at h1
      by_cases e : j = k
      · subst e
        exact .inr ⟨hx, fun m hm hc => h.start m hm hc⟩
      · rw [if_neg e] at h1
        exact .inl h1
    · exact .inr h1
  · rw [List.mem_singleton] at hu
    obtain rfl : u = k := by omega
    exact h.mono u hkk
  · have h1 := count_set hk hb
    have h2 := h.count
    omega
/-- None of them leads to the exit. -/
theorem Dfs.none {p : List I4} {c : Int} {us : List Int} {n : Nat} {bs' : List Bool} (h : Dfs p c us (List.replicate n false) bs') : ¬ ReachA p us c p.length := by
  have hfalse : ∀ k, (List.replicate n false).getD k false = false := by
    intro k
    rw [List.getD_eq_getElem?_getD, List.getElem?_replicate]
    split <;> rfl
  intro hr
  have hx : bs'.getD p.length false = true := hr (fun k => bs'.getD k false = true) h.start (fun k hk m hm hc => by
    rcases h.new k hk with h1 | h1
    · rw [hfalse] at h1; cases h1
    · exact h1.2 m hm hc)
  rcases h.new _ hx with h1 | h1
  · rw [hfalse] at h1; cases h1
  · exact h1.1 rfl

/-- What the closure captures: the node to avoid, the marks, the program, itself. -/
def visitL (b : Nat) : Array Value := #[.pointer (some ⟨b + 1, 0, none⟩), .pointer (some ⟨b + 2, 0, none⟩), .pointer (some ⟨b, 0, none⟩), .pointer (some ⟨b + 3, 0, none⟩)]
def visitF (b : Nat) : Value := .func (.func 79) #[] (visitL b)

/-- The world while nodes are visited. -/
structure VW (b : Nat) (w wr : World) (a : Option Addr) (n cap : Nat) (c : Int) (bs : List Bool) : Prop where
  bp : wr.cell? ⟨b, 0, none⟩ = some (.slice a n cap)
  bc : wr.cell? ⟨b + 1, 0, none⟩ = some (.int .i64 c)
  bv : wr.cell? ⟨b + 3, 0, none⟩ = some (visitF b)
  marks : OwnB 50 (b + 2) wr (b + 2) bs
  bel : Below b w wr
  size : b + 4 ≤ wr.heap.size
  len : bs.length = 33

theorem VW.grown {b : Nat} {w wr w2 : World} {a : Option Addr} {n cap : Nat} {c : Int} {bs : List Bool} (h : VW b w wr a n cap c bs) (hb : Below wr.heap.size wr w2) : VW b w w2 a n cap c bs := by
  have hs := h.size
  refine ⟨?_, ?_, ?_, h.marks.below hb, h.bel.trans (hb.mono (by omega)), Nat.le_trans hs hb.size, h.len⟩
  · rw [hb.cell (p := ⟨b, 0, none⟩) (by show b < _; omega)]; exact h.bp
  · rw [hb.cell (p := ⟨b + 1, 0, none⟩) (by show b + 1 < _; omega)]; exact h.bc
  · rw [hb.cell (p := ⟨b + 3, 0, none⟩) (by show b + 3 < _; omega)]; exact h.bv
theorem VW.set {b : Nat} {w wr : World} {a : Option Addr} {n cap : Nat} {c : Int} {bs : List Bool} (h : VW b w wr a n cap c bs) (k : Nat) : VW b w (wr.setCell ⟨b + 2, k, none⟩ (.bool true)) a n cap c (bs.set k true) := by
  have hs := h.size
  have hg := grownBy_setCell wr ⟨b + 2, k, none⟩ (.bool true)
  have hne : ∀ j, j < b + 4 → j ≠ b + 2 → (wr.setCell ⟨b + 2, k, none⟩ (.bool true)).cell? ⟨j, 0, none⟩ = wr.cell? ⟨j, 0, none⟩ := fun j hj hj2 => World.cell?_of_block (hg.block j (by omega) (by simp; omega))
  refine ⟨?_, ?_, ?_, h.marks.stored k true, h.bel.setCell (by show b ≤ b + 2; omega) _, by simpa using hs, by rw [List.length_set]; exact h.len⟩
  · rw [hne b (by omega) (by omega)]; exact h.bp
  · rw [hne (b + 1) (by omega) (by omega)]; exact h.bc
  · rw [hne (b + 3) (by omega) (by omega)]; exact h.bv

theorem kept_grown {w w' : World} {row : Option Nat} (h : Below w.heap.size w w') : w.grownBy w' row := ⟨h.os, h.tape, h.output, h.size, fun k hk _ => h.block k hk⟩

/-- What a visit says: yes, and there is a way; or no, and the marks say why. -/
def VisitSaid (b : Nat) (w wr : World) (a : Option Addr) (p : List I4) (cap : Nat) (c : Int) (us : List Int) (bs : List Bool) (e : Ending) (w' : World) : Prop :=
  ∃ r bs', e = .returned (.bool r) ∧ VW b w w' a p.length cap c bs' ∧ wr.grownBy w' (some (b + 2)) ∧ (r = true → ReachA p us c p.length) ∧ (r = false → Dfs p c us bs bs')

/-- Visits where at most n nodes are unmarked. -/
def VisitOk (b : Nat) (w : World) (a : Option Addr) (p : List I4) (cap : Nat) (c : Int) (n : Nat) : Prop :=
  ∀ (bs : List Bool) (wr : World) (k : Nat), k ≤ p.length → 33 - bs.count true ≤ n → VW b w wr a p.length cap c bs → Calls Try.prog 79 (#[.int .i64 (k : Int)] ++ visitL b) wr (VisitSaid b w wr a p cap c [(k : Int)] bs)

/-- ContainsFunc over the visits of some nodes. -/
theorem visit_all {b : Nat} {w : World} {a : Option Addr} {p : List I4} {cap : Nat} {c : Int} {n : Nat} (hv : VisitOk b w a p cap c n) (B2 : Nat) (wr : World) (a2 : Option Addr) (ys : List Int) (c2 : Nat) (bs : List Bool)
    (hl : ys.length ≤ 2) (hy : ∀ y ∈ ys, 0 ≤ y ∧ y ≤ p.length) (hpl : p.length ≤ 1000) (hn : 33 - bs.count true ≤ n) (hV : VW b w wr a p.length cap c bs) (ho : Own B2 wr (.slice a2 ys.length c2) ys) (hB2 : b + 4 ≤ B2) :
    Calls Try.prog 57 #[.slice a2 ys.length c2, visitF b] wr (VisitSaid b w wr a p cap c ys bs) := by
  have hx : ∀ y ∈ ys, i64R y := fun y h => by have := hy y h; unfold i64R; omega
  have hgr : ∀ {W W2 : World}, wr.grownBy W (some (b + 2)) → Own B2 W (.slice a2 ys.length c2) ys → W.grownBy W2 (some (b + 2)) → Own B2 W2 (.slice a2 ys.length c2) ys := fun hw h hg => h.grown hg (fun k hk => by
    cases hk
    refine .inr fun d hd => ?_
    have := (World.ownsRow.lt h d hd).1
    omega)
  refine (pContainsFunc_any _ (visitL b) (enters_of Try.func79 (by kernel_rfl) rfl) wr a2 c2 ys (by omega)
    (fun j W => Own B2 W (.slice a2 ys.length c2) ys ∧ wr.grownBy W (some (b + 2)) ∧ ∃ bs', VW b w W a p.length cap c bs' ∧ Dfs p c (ys.take j) bs bs')
    (fun j W => wr.grownBy W (some (b + 2)) ∧ (∃ bs', VW b w W a p.length cap c bs') ∧ ReachA p ys c p.length)
    (fun j W hI => ⟨_, hI.1.nums hx (Nat.le_refl _)⟩) (fun j hj W hI => ?_) ⟨ho, grownBy_refl _ _, bs, hV, by rw [List.take_zero]; exact Dfs.nil _ _ _⟩).mono ?_
  · obtain ⟨hO, hG, bs1, hV1, hD1⟩ := hI
    have hyr := hy ys[j] (List.getElem_mem hj)
    have hym := List.getElem_mem hj
    obtain ⟨y, hyy⟩ := Int.eq_ofNat_of_zero_le hyr.1
    rw [hyy] at hym hyr ⊢
    refine (hv bs1 W y (by omega) (by have := hD1.count; omega) hV1).mono ?_
    rintro e w1 ⟨r, bs2, rfl, hV2, hG2, ht, hf⟩
    refine ⟨r, rfl, fun hr => ⟨grownBy_trans hG hG2, ⟨bs2, hV2⟩, (ht hr).of fun m hm hc => ?_⟩, fun hr => ⟨hgr hG hO hG2, grownBy_trans hG hG2, bs2, hV2, ?_⟩⟩
    · rw [List.mem_singleton] at hm
      obtain rfl : m = y := by omega
      exact ReachA.start hym hc
    · rw [List.take_succ_eq_append_getElem hj, hyy]
      exact hD1.snoc (hf hr)
  · rintro e w1 (⟨j, hj, rfl, hG, ⟨bs1, hV1⟩, hr⟩ | ⟨rfl, _, hG, bs1, hV1, hD⟩)
    · exact ⟨true, bs1, rfl, hV1, hG, fun _ => hr, (fun h => nomatch h)⟩
    · rw [List.take_length] at hD
      exact ⟨false, bs1, rfl, hV1, hG, (fun h => nomatch h), fun _ => hD⟩

set_option maxRecDepth 100000 in
set_option maxHeartbeats 2000000 in
theorem visit_step (B b : Nat) (w : World) (a : Option Addr) (p : List I4) (cap : Nat) (c : Int) (n : Nat) (hp : progOk p = true) (h : Nums B w a (flat p)) (hB : B ≤ b) (IH : ∀ m, n = m + 1 → VisitOk b w a p cap c m) : VisitOk b w a p cap c n := by
  intro bs wr k hk hn hV
  show Calls Try.prog 79 #[.int .i64 (k : Int), .pointer (some ⟨b + 1, 0, none⟩), .pointer (some ⟨b + 2, 0, none⟩), .pointer (some ⟨b, 0, none⟩), .pointer (some ⟨b + 3, 0, none⟩)] wr _
  have h32 := progOk_len hp
  have hlen := hV.len
  have hsz := hV.size
  have hbp := hV.bp
  have hbc := hV.bc
  have hbv := hV.bv
  have hcm := hV.marks.cell k (by omega)
  have hfm := hV.marks.frozen k
  have HV := Lib.hid hV
  have HH := Lib.hid h
  have HP := Lib.hid hp
  have HIH := Lib.hid IH
  clear h hV hp IH
  by_cases hkc : (k : Int) = c
  · have HD := Lib.hid (Dfs.old (p := p) (bs := bs) (.inl hkc))
    subst hkc
    clear hcm hfm
    go_enter Try.func79, Try.ntmps79
    go_wp2_with fail
    go_ret
    exact ⟨false, bs, rfl, HV.out, grownBy_refl _ _, (fun h => nomatch h), fun _ => HD.out⟩
  · have hkce : ((k : Int) == c) = false := by simpa using hkc
    have HKC := Lib.hid hkc
    clear hkc
    cases hb : bs.getD k false with
    | true =>
      have HD := Lib.hid (Dfs.old (p := p) (c := c) (bs := bs) (.inr hb))
      rw [hb] at hcm
      clear hb
      go_enter Try.func79, Try.ntmps79
      go_wp2_with fail
      go_ret
      exact ⟨false, bs, rfl, HV.out, grownBy_refl _ _, (fun h => nomatch h), fun _ => HD.out⟩
    | false =>
      rw [hb] at hcm
      have HB := Lib.hid hb
      have HV3 := Lib.hid (HV.out.set k)
      have HG3 := Lib.hid (grownBy_setCell wr ⟨b + 2, k, none⟩ (.bool true))
      clear hb
      by_cases hyn : k = p.length
      · have hyne : ((k : Int) == (p.length : Int)) = true := by simp; omega
        have HR := Lib.hid (show ReachA p [(k : Int)] c p.length from by rw [← hyn]; exact ReachA.start (by simp) HKC.out)
        clear hyn
        go_enter Try.func79, Try.ntmps79
        go_wp2_with fail
        go_quiet (fail)
        go_wp2_with fail
        go_ret
        exact ⟨true, _, rfl, HV3.out.grown (below_drewN _ _ _), grownBy_trans HG3.out (grownBy_drewN _ _ _), fun _ => HR.out, (fun h => nomatch h)⟩
      · have hyne : ((k : Int) == (p.length : Int)) = false := by simp; omega
        have hcnt := count_set (bs := bs) (m := k) (by omega) HB.out
        have hcl : (bs.set k true).count true ≤ 33 := by have := List.count_le_length (a := true) (l := bs.set k true); rw [List.length_set] at this; omega
        obtain ⟨m, rfl⟩ : ∃ m, n = m + 1 := ⟨n - 1, by omega⟩
        have hm : 33 - (bs.set k true).count true ≤ m := by omega
        have HND := Lib.hid (fun bs' (h : Dfs p c (nextL p k) (bs.set k true) bs') => Dfs.node (by omega) HB.out hyn h)
        have HNR := Lib.hid (fun (h : ReachA p (nextL p k) c p.length) => ReachA.step_iff.2 ⟨HKC.out, .inr h⟩)
        have HS := Lib.hid (fun W (hW : Kept (wr.setCell ⟨b + 2, k, none⟩ (.bool true)) W) => pSucc_any B W a p cap k (by omega) hk (HH.out.kept ((HV3.out.bel.trans (hW.mono (by have := HV3.out.size; omega))).mono hB)) (by have := hW.size; have := HV3.out.size; omega))
        have hyl := nextL_le p k
        have hyr := nextL_rng HP.out k
        have HA := Lib.hid (fun W a2 c2 (hW : Kept (wr.setCell ⟨b + 2, k, none⟩ (.bool true)) W) (ho : Own (wr.setCell ⟨b + 2, k, none⟩ (.bool true)).heap.size W (.slice a2 (nextL p k).length c2) (nextL p k)) =>
          visit_all (HIH.out m rfl) _ W a2 (nextL p k) c2 (bs.set k true) hyl hyr (by omega) hm (HV3.out.grown hW) ho HV3.out.size)
        generalize nextL p k = ys at *
        clear hyr hcnt hcl hm hyn HIH
        go_enter Try.func79, Try.ntmps79
        have hk3 : Kept (wr.setCell ⟨b + 2, k, none⟩ (.bool true)) (wr.setCell ⟨b + 2, k, none⟩ (.bool true)) := Below.refl _ _
        go_wp2_with fail
        go_region_held3 (fun w' => w'.cell? ⟨b, 0, none⟩ = some (.slice a p.length cap) ∧ w'.cell? ⟨b + 3, 0, none⟩ = some (visitF b)) (first | go_keep | ((repeat' apply And.intro) <;> (rw [hb1.cell (by simp; omega)]; simp [*])) | exact ⟨hv1.bp, hv1.bv⟩) ((first
          | (go_at_call 48; refine (HS.out _ ?_).mono ?_; (first | exact hk3 | exact Kept.drew hk3 | exact below_drewN _ _ _); rintro e w4 ⟨v4, rfl, o4, hb1⟩; obtain ⟨a4, c4, rfl⟩ := o4.form; have hk4 : Kept (wr.setCell ⟨b + 2, k, none⟩ (.bool true)) w4 := (by first | exact Kept.call hk3 hb1 | exact Kept.call (Kept.drew hk3) hb1 | exact Kept.call (below_drewN _ _ _) hb1); have o5 : Own (wr.setCell ⟨b + 2, k, none⟩ (.bool true)).heap.size w4 (.slice a4 ys.length c4) ys := (by exact o4))
          | (go_at_call 57; refine (HA.out _ _ _ ?_ ?_).mono ?_; (first | exact hk4 | exact Kept.drew hk4 | exact Below.trans hk4 (below_drewN _ _ _)); (first | exact o5 | exact o5.below (below_drewN _ _ _)); rintro e w5 ⟨r, bs5, rfl, hv1, hg5, ht, hf⟩)))
        rename_i hHeld
        have HV5 := Lib.hid hv1
        have HG5 := Lib.hid (grownBy_trans HG3.out (grownBy_trans (kept_grown (row := some (b + 2)) hk4) hg5))
        have HT := Lib.hid (fun hr => HNR.out (ht hr))
        have HF := Lib.hid (fun hr => HND.out _ (hf hr))
        clear hv1 hg5 ht hf hk3 hk4 hb1 o4 o5 hHeld
        go_wp2_with fail
        go_ret
        exact ⟨r, bs5, rfl, HV5.out, HG5.out, HT.out, HF.out⟩

theorem visit_any (B b : Nat) (w : World) (a : Option Addr) (p : List I4) (cap : Nat) (c : Int) (hp : progOk p = true) (h : Nums B w a (flat p)) (hB : B ≤ b) : ∀ n, VisitOk b w a p cap c n
  | 0 => visit_step B b w a p cap c 0 hp h hB (fun m e => by omega)
  | n + 1 => visit_step B b w a p cap c (n + 1) hp h hB (fun m e => by
      obtain rfl : m = n := by omega
      exact visit_any B b w a p cap c hp h hB m)

theorem visit_start (w : World) (a : Option Addr) (n cap : Nat) (c : Int) {zs : List Value} (hz : zs = List.replicate 33 (Value.bool false)) (T1 T2 T4 : TypeId) {f : Value} (hf : f = visitF w.heap.size) :
    VW w.heap.size w ((((w.alloc (.cells #[.slice a n cap] T1)).alloc (.cells #[.int .i64 c] T2)).alloc (.cells zs.toArray 50)).alloc (.cells #[f] T4)) a n cap c (List.replicate 33 false) := by
  subst hz hf
  have e1 : List.replicate 33 (Value.bool false) = (List.replicate 33 false).map .bool := by rw [List.map_replicate]
  rw [e1]
  refine ⟨?_, ?_, ?_, OwnB.alloc (OwnB.made _ _ (by simp) (Nat.le_refl _) (by unfold maxLen; simp)) _, (below3 _ _ _ _).alloc (by simp; omega) _, by simp, by simp⟩
  · rw [World.cell?_alloc_past _ _ _ (by simp <;> omega), World.cell?_alloc_past _ _ _ (by simp <;> omega), World.cell?_alloc_past _ _ _ (by simp), World.cell?_alloc_at _ _ _ _ rfl]
    rfl
  · rw [World.cell?_alloc_past _ _ _ (by simp <;> omega), World.cell?_alloc_past _ _ _ (by simp), World.cell?_alloc_at _ _ _ _ (by simp)]
    rfl
  · rw [World.cell?_alloc_at _ _ _ _ (by simp)]
    rfl

set_option maxRecDepth 100000 in
set_option maxHeartbeats 1000000 in
theorem pWay_any (B : Nat) (w : World) (a : Option Addr) (p : List I4) (cap k : Nat) (c : Int) (hp : progOk p = true) (hk : k ≤ p.length) (h : Nums B w a (flat p)) (hB : B ≤ w.heap.size) (RA : List Int → Int → Nat → Bool) (hR : AllAvoid p RA) :
    Calls Try.prog 55 #[.slice a p.length cap, .int .i64 (k : Int), .int .i64 c] w (Said (.bool (!aftB p RA k c)) w) := by
  have hv := visit_any B w.heap.size w a p cap c hp h hB 33
  have HV := Lib.hid hv
  have HR := Lib.hid (fun (hr : ReachA p [(k : Int)] c p.length) => (show (!aftB p RA k c) = true by unfold aftB; rw [Bool.not_not]; exact (hR _ _ _).2 hr))
  have HF := Lib.hid (fun (hr : ¬ ReachA p [(k : Int)] c p.length) => (show (!aftB p RA k c) = false by unfold aftB; rw [Bool.not_not, ← Bool.not_eq_true]; exact fun h => hr ((hR _ _ _).1 h)))
  have hmf : ∀ (fn : Fn) (first cap : Array Value) (w : World), (Instr.makeFunc fn first cap).run Try.prog w = .ok (.func fn first cap) w := fun _ _ _ _ => rfl
  generalize (!aftB p RA k c) = x at *
  clear hv h hR hp
  go_enter Try.func55, Try.ntmps55
  go_wp2_with fail
  refine (HV.out _ _ k hk (by omega) (visit_start w a p.length cap c rfl _ _ _ rfl)).mono ?_
  rintro e w1 ⟨r, bs', rfl, hV, _, ht, hf⟩
  have HB := Lib.hid hV.bel
  have HX := Lib.hid (show x = r from by
    cases r with
    | true => exact HR.out (ht rfl)
    | false => exact HF.out (hf rfl).none)
  clear hV ht hf
  go_wp2_with fail
  go_ret
  exact ⟨by rw [HX.out]; rfl, HB.out⟩

end Go.Proofs.Ytbnebghpakllpaa
