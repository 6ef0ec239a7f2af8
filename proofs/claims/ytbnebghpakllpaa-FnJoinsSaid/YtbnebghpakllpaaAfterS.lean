/- Post-dominators: the model's search for a way to the exit that passes a node nowhere. -/
import Derived.Test.YtbnebghpakllpaaAfter
import Derived.Test.YtbnebghpakllpaaReachS
namespace Go.Proofs.Ytbnebghpakllpaa
open Go.RowKit Go

/-- For all nodes to begin with and all nodes to pass nowhere at once: marks that say what is reached. -/
def AllAvoid (p : List I4) (RA : List Int → Int → Nat → Bool) : Prop := ∀ us c k, RA us c k = true ↔ ReachA p us c k
theorem exists_avoid (p : List I4) : ∃ RA, AllAvoid p RA :=
  ⟨fun us c k => @decide (ReachA p us c k) (Classical.propDecidable _), fun us c k => @decide_eq_true_iff (ReachA p us c k) (Classical.propDecidable _)⟩

/-- Does every way from a to the exit pass c? -/
def aftB (p : List I4) (RA : List Int → Int → Nat → Bool) (a c : Int) : Bool := !RA [a] c p.length
theorem aftB_iff {p : List I4} {RA : List Int → Int → Nat → Bool} (h : AllAvoid p RA) {a : Nat} {c : Int} : aftB p RA a c = true ↔ After p a c := by
  unfold aftB After
  rw [Bool.not_eq_true', ← h, Bool.not_eq_true]

/-- The model's search: the marks so far, and the nodes that wait. -/
structure SeekA (p : List I4) (us : List Int) (c : Int) (bs : List Bool) (ys : List Int) : Prop where
  len : bs.length = p.length + 1
  rng : ∀ y ∈ ys, 0 ≤ y ∧ y ≤ p.length
  sound : ∀ k : Nat, bs.getD k false = true → ReachA p us c k
  wait : ∀ k : Nat, (k : Int) ∈ ys → (k : Int) ≠ c → ReachA p us c k
  start : ∀ m : Nat, (m : Int) ∈ us → (m : Int) ≠ c → bs.getD m false = true ∨ (m : Int) ∈ ys
  closed : ∀ k : Nat, bs.getD k false = true → ∀ m : Nat, (m : Int) ∈ nextL p k → (m : Int) ≠ c → bs.getD m false = true ∨ (m : Int) ∈ ys
  size : ys.length ≤ us.length + 2 * bs.count true

theorem SeekA.first {p : List I4} {us : List Int} {c : Int} (hu : ∀ u ∈ us, 0 ≤ u ∧ u ≤ p.length) : SeekA p us c (List.replicate (p.length + 1) false) us := by
  have hfalse : ∀ k, (List.replicate (p.length + 1) false).getD k false = false := by
    intro k
    rw [List.getD_eq_getElem?_getD, List.getElem?_replicate]
    split <;> rfl
  refine ⟨by simp, hu, fun k hk => ?_, fun k hk hc => ReachA.start hk hc, fun m hm _ => .inr hm, fun k hk => ?_, by omega⟩
  · rw [hfalse] at hk; cases hk
  · rw [hfalse] at hk; cases hk

theorem SeekA.old {p : List I4} {us : List Int} {c : Int} {bs : List Bool} {y : Nat} {ys : List Int} (h : SeekA p us c bs ((y : Int) :: ys)) (hy : bs.getD y false = true ∨ (y : Int) = c) : SeekA p us c bs ys := by
  have key : ∀ m : Nat, (m : Int) ≠ c → bs.getD m false = true ∨ (m : Int) ∈ (y : Int) :: ys → bs.getD m false = true ∨ (m : Int) ∈ ys := by
    rintro m hc (h1 | h1)
    · exact .inl h1
    · rcases List.mem_cons.1 h1 with h2 | h2
      · obtain rfl : m = y := by omega
        exact .inl (hy.resolve_right hc)
      · exact .inr h2
  exact ⟨h.len, fun x hx => h.rng x (List.mem_cons_of_mem _ hx), h.sound, fun k hk hc => h.wait k (List.mem_cons_of_mem _ hk) hc, fun m hm hc => key m hc (h.start m hm hc), fun k hk m hm hc => key m hc (h.closed k hk m hm hc), by have := h.size; simp at this; omega⟩

theorem SeekA.new {p : List I4} {us : List Int} {c : Int} {bs : List Bool} {y : Nat} {ys : List Int} (hp : progOk p = true) (h : SeekA p us c bs ((y : Int) :: ys)) (hy : bs.getD y false = false) (hyc : (y : Int) ≠ c) : SeekA p us c (bs.set y true) (ys ++ nextL p y) := by
  have hr := h.rng y (by simp)
  have hlen : y < bs.length := by rw [h.len]; omega
  have hle := nextL_le p y
  have hya := h.wait y (by simp) hyc
  have key : ∀ m : Nat, bs.getD m false = true ∨ (m : Int) ∈ (y : Int) :: ys → (bs.set y true).getD m false = true ∨ (m : Int) ∈ ys ++ nextL p y := by
    intro m hm
    rw [getD_set hlen]
    by_cases e : m = y
    · rw [if_pos e]; exact .inl rfl
    · rw [if_neg e]
      rcases hm with h1 | h1
      · exact .inl h1
      · rcases List.mem_cons.1 h1 with h2 | h2
        · omega
        · exact .inr (List.mem_append_left _ h2)
  refine ⟨by rw [List.length_set]; exact h.len, fun x hx => ?_, fun k hk => ?_, fun k hk hc => ?_, fun m hm hc => key m (h.start m hm hc), fun k hk m hm hc => ?_, ?_⟩
  · rcases List.mem_append.1 hx with h1 | h1
    · exact h.rng x (List.mem_cons_of_mem _ h1)
    · exact nextL_rng hp _ x h1
  · rw [getD_set hlen] at hk
    by_cases e : k = y
    · subst e; exact hya
    · rw [if_neg e] at hk; exact h.sound k hk
  · rcases List.mem_append.1 hk with h1 | h1
    · exact h.wait k (List.mem_cons_of_mem _ h1) hc
    · exact hya.step h1 hc
  · rw [getD_set hlen] at hk
    by_cases e : k = y
    · subst e; exact .inr (List.mem_append_right _ hm)
    · rw [if_neg e] at hk; exact key m (h.closed k hk m hm hc)
  · have h1 := h.size
    rw [count_set hlen hy, List.length_append]
    simp only [List.length_cons] at h1
    omega

theorem SeekA.count {p : List I4} {us : List Int} {c : Int} {bs : List Bool} {ys : List Int} (h : SeekA p us c bs ys) : bs.count true ≤ p.length + 1 := by
  have := List.count_le_length (a := true) (l := bs)
  rw [← h.len]; exact this
theorem seekA_new {p : List I4} {us : List Int} {c : Int} {bs : List Bool} {y : Nat} {ys : List Int} {g : Nat} (hs : SeekA p us c bs ((y : Int) :: ys)) (hy : bs.getD y false = false) (h : seekG p bs ((y : Int) :: ys) ≤ g + 1) : seekG p (bs.set y true) (ys ++ nextL p y) ≤ g := by
  have hr := hs.rng y (by simp)
  have hlen : y < bs.length := by rw [hs.len]; omega
  have hle := nextL_le p y
  have hc : (bs.set y true).count true ≤ p.length + 1 := by
    have := List.count_le_length (a := true) (l := bs.set y true)
    rw [List.length_set, hs.len] at this; exact this
  unfold seekG at *
  rw [count_set hlen hy] at *
  rw [List.length_append]
  rw [List.length_cons] at h
  omega
theorem SeekA.key {p : List I4} {us : List Int} {c : Int} {bs : List Bool} (h : SeekA p us c bs []) {k : Nat} (hk : ReachA p us c k) : bs.getD k false = true :=
  hk (fun k => bs.getD k false = true) (fun m hm hc => by simpa using h.start m hm hc) (fun k hk m hm hc => by simpa using h.closed k hk m hm hc)
/-- When none waits, the marks say what is reached. -/
theorem SeekA.all {p : List I4} {us : List Int} {c : Int} {bs : List Bool} {f : Nat → Bool} (h : SeekA p us c bs []) (hf : ∀ k, f k = true ↔ ReachA p us c k) : bs = boolsOf (p.length + 1) f := by
  unfold boolsOf
  apply List.ext_getElem
  · rw [h.len, List.length_map, List.length_range]
  · intro k h1 h2
    rw [List.getElem_map, List.getElem_range]
    have e : bs.getD k false = bs[k] := by rw [List.getD_eq_getElem?_getD, List.getElem?_eq_getElem h1]; rfl
    rw [← e, Bool.eq_iff_iff, hf k]
    exact ⟨h.sound k, h.key⟩

theorem seekA_start {w w1 : World} {n : Nat} {k : Int} (hm : OwnB 4 w.heap.size w1 w.heap.size (List.replicate n false)) (hb : Below w.heap.size w w1) :
    SW w (w1.alloc (.cells #[.int .i64 k] 3)) (.slice (some ⟨w1.heap.size, 0, none⟩) 1 1) (List.replicate n false) [k] := by
  have hl := hm.lt
  exact ⟨OwnQ.of_own (Own.made w1 [k] rfl (by omega) rfl (by unfold maxLen; simp)) (by intro e; cases e), hm.alloc _, hb.alloc hb.size _⟩

set_option maxRecDepth 100000 in
set_option maxHeartbeats 1000000 in
theorem sAfter_any (B : Nat) (w : World) (a : Option Addr) (p : List I4) (cap k : Nat) (c : Int) (hp : progOk p = true) (hk : k ≤ p.length) (h : Nums B w a (flat p)) (hB : B ≤ w.heap.size) (RA : List Int → Int → Nat → Bool) (hR : AllAvoid p RA) :
    Calls Try.prog 108 #[.slice a p.length cap, .int .i64 k, .int .i64 c] w (Said (.bool (aftB p RA k c)) w) := by
  obtain ⟨i0, hi0, hz0, hz1, hz2⟩ := info_parts info_int
  obtain ⟨i1, hi1, hy0, hy1, hy2⟩ := info_parts info_bool
  have h32 := progOk_len hp
  by_cases hkc : (k : Int) = c
  · have e : aftB p RA k c = true := by rw [aftB_iff hR, ← hkc]; exact After.self p k
    rw [e]
    subst hkc
    clear h hR e
    go_enter Try.func108, Try.ntmps108
    go_wp2_with fail
    go_ret
    exact ⟨rfl, Below.refl _ _⟩
  · have hkce : ((k : Int) == c) = false := by simpa using hkc
    have HH := Lib.hid h
    have HP := Lib.hid hp
    have HR := Lib.hid hR
    have H0 := Lib.hid (SeekA.first (p := p) (us := [(k : Int)]) (c := c) (by intro u hu; rw [List.mem_singleton] at hu; omega))
    have HX := Lib.hid (fun bs (h : SeekA p [(k : Int)] c bs []) (hx : bs.getD p.length false = false) => (show aftB p RA k c = true from (aftB_iff hR).2 fun hr => by have := h.key hr; rw [hx] at this; cases this))
    have HY := Lib.hid (fun (hr : ReachA p [(k : Int)] c p.length) => (show aftB p RA k c = false by unfold aftB; rw [Bool.not_eq_false']; exact (hR _ _ _).2 hr))
    generalize aftB p RA k c = r at *
    clear h hp hR hkc
    go_enter Try.func108, Try.ntmps108
    go_wp2_with (at_make; refine wpList_make_full _ rfl _ _ _ rfl w.heap.size 4 i1 (.bool false) 1 Try.underlying56 hi1 hy0 hy1 .i64 .i64 _ _ (p.length + 1) rfl rfl (by go_num) (by go_num) (by rw [hy2]; omega) (by unfold maxLen; omega) (Nat.le_refl _) ?_; intro w1 hown hgrow; have HQ := Lib.hid (seekA_start (k := (k : Int)) (bools_made hown) (grownBy_below hgrow (Nat.le_refl _) (fun _ e => by cases e))); clear hown hgrow)
    go_loopg [8] (seekG p (List.replicate (p.length + 1) false) [(k : Int)]) (fun g v wr => ∃ (bs : List Bool) (ys : List Int), Hid (SeekA p [(k : Int)] c bs ys ∧ bs.getD p.length false = false ∧ seekG p bs ys ≤ g) ∧ SW w wr v bs ys)
    case atStart => exact ⟨_, _, ⟨H0.out, by rw [List.getD_eq_getElem?_getD, List.getElem?_replicate]; split <;> rfl, Nat.le_refl _⟩, HQ.out⟩
    case round =>
      obtain ⟨bs, ys, hF, hM⟩ := hrel
      have HM := Lib.hid hM
      have hsz := hM.size
      have hlen := hF.out.1.len
      obtain ⟨g, off, qc, rfl, hg, hg2, hqc⟩ := hM.queue.form
      clear hM
      cases ys with
      | nil =>
        have HRT := Lib.hid (HX.out bs hF.out.1 hF.out.2.1)
        clear hlen
        go_wp2_with fail
        go_ret
        exact ⟨by rw [HRT.out]; rfl, HM.out.bel⟩
      | cons y ys =>
        have hyr := hF.out.1.rng y (by simp)
        obtain ⟨y, rfl⟩ := Int.eq_ofNat_of_zero_le hyr.1
        have hc := HM.out.queue.head
        have hcm := HM.out.marks.cell y (by omega)
        have hfm := HM.out.marks.frozen y
        obtain ⟨n, rfl⟩ : ∃ n, gk = n + 1 := ⟨gk - 1, by have h := hF.out.2.2; unfold seekG at h; simp at h; omega⟩
        have h1 := fun W h hB => sNext_any B W a p cap y (by omega) (by omega) h hB
        replace h1 := Lib.hid h1
        have hlq : ys.length + 1 ≤ qc := by simpa using hqc
        have hysl := hF.out.1.size
        have hcnt := hF.out.1.count
        have hnl := nextL_le p y
        clear hqc hlen
        by_cases hq1 : qc = 1
        · subst hq1
          obtain rfl : ys = [] := List.eq_nil_of_length_eq_zero (by omega)
          have HT := Lib.hid (HM.out.tail (off' := off) (by simp))
          cases hb : bs.getD y false with
          | true =>
            rw [hb] at hcm
            have HB := Lib.hid hb
            clear hb hlq
            go_wp2_with fail
            go_roundg n
            case rel => exact ⟨bs, [], ⟨hF.out.1.old (.inl HB.out), hF.out.2.1, seekG_old hF.out.2.2⟩, HT.out⟩
            case measure => omega
          | false =>
            rw [hb] at hcm
            have HB := Lib.hid hb
            clear hb
            by_cases hyc : (y : Int) = c
            · subst hyc
              clear hlq
              go_wp2_with fail
              go_roundg n
              case rel => exact ⟨bs, [], ⟨hF.out.1.old (.inr rfl), hF.out.2.1, seekG_old hF.out.2.2⟩, HT.out⟩
              case measure => omega
            · have hyce : ((y : Int) == c) = false := by simpa using hyc
              have HYC := Lib.hid hyc
              clear hyc
              by_cases hyn : y = p.length
              · have HRT := Lib.hid (HY.out (by have h := hF.out.1.wait y (by simp) HYC.out; rwa [hyn] at h))
                have hyne : ((y : Int) == (p.length : Int)) = true := by simp; omega
                clear hyn hlq
                go_wp2_with fail
                go_ret
                exact ⟨by rw [HRT.out]; rfl, HM.out.bel⟩
              · have hyne : ((y : Int) == (p.length : Int)) = false := by simp; omega
                have HYN := Lib.hid hyn
                have HM3 := Lib.hid (HT.out.set y)
                have HS3 := Lib.hid (hF.out.1.new HP.out HB.out HYC.out)
                have HG3 := Lib.hid (seekA_new hF.out.1 HB.out hF.out.2.2)
                have HX3 := Lib.hid (show (bs.set y true).getD p.length false = false by rw [getD_set (by rw [hF.out.1.len]; omega), if_neg (fun e => HYN.out e.symm)]; exact hF.out.2.1)
                clear hyn
                go_wp2_with fail
                refine (h1.out _ (HH.out.kept (HM3.out.bel.mono hB)) (Nat.le_trans hB HM3.out.bel.size)).mono ?_
                rintro e w3 ⟨vs, rfl, o3, b3⟩
                have HM4 := Lib.hid (HM3.out.below b3)
                have HO3 := Lib.hid o3
                have hs4 := HM4.out.size
                clear o3 b3 hc hcm hfm
                go_wp2_with (at_builtin; refine wpList_append_q _ rfl (.tmp 43) (.tmp 46) rfl (w.heap.size + 1) i0 hi0 hz0 hz1 hz2 _ _ [] (nextL p y) rfl HM4.out.queue rfl _ HO3.out (by simp at hysl ⊢; omega) (by omega) ?_; intro v5 w5 hq5 hg5)
                have HM5 := Lib.hid (HM4.out.append hq5 hg5)
                clear hq5 hg5
                go_roundg n
                case rel => exact ⟨_, _, ⟨HS3.out, HX3.out, HG3.out⟩, HM5.out⟩
                case measure => omega
        · have HT := Lib.hid (HM.out.tail (off' := off + 1) (by simp [hq1]))
          cases hb : bs.getD y false with
          | true =>
            rw [hb] at hcm
            have HB := Lib.hid hb
            clear hb hlq
            go_wp2_with fail
            go_roundg n
            case rel => exact ⟨bs, ys, ⟨hF.out.1.old (.inl HB.out), hF.out.2.1, seekG_old hF.out.2.2⟩, HT.out⟩
            case measure => omega
          | false =>
            rw [hb] at hcm
            have HB := Lib.hid hb
            clear hb
            by_cases hyc : (y : Int) = c
            · subst hyc
              clear hlq
              go_wp2_with fail
              go_roundg n
              case rel => exact ⟨bs, ys, ⟨hF.out.1.old (.inr rfl), hF.out.2.1, seekG_old hF.out.2.2⟩, HT.out⟩
              case measure => omega
            · have hyce : ((y : Int) == c) = false := by simpa using hyc
              have HYC := Lib.hid hyc
              clear hyc
              by_cases hyn : y = p.length
              · have HRT := Lib.hid (HY.out (by have h := hF.out.1.wait y (by simp) HYC.out; rwa [hyn] at h))
                have hyne : ((y : Int) == (p.length : Int)) = true := by simp; omega
                clear hyn hlq
                go_wp2_with fail
                go_ret
                exact ⟨by rw [HRT.out]; rfl, HM.out.bel⟩
              · have hyne : ((y : Int) == (p.length : Int)) = false := by simp; omega
                have HYN := Lib.hid hyn
                have HM3 := Lib.hid (HT.out.set y)
                have HS3 := Lib.hid (hF.out.1.new HP.out HB.out HYC.out)
                have HG3 := Lib.hid (seekA_new hF.out.1 HB.out hF.out.2.2)
                have HX3 := Lib.hid (show (bs.set y true).getD p.length false = false by rw [getD_set (by rw [hF.out.1.len]; omega), if_neg (fun e => HYN.out e.symm)]; exact hF.out.2.1)
                clear hyn
                go_wp2_with fail
                refine (h1.out _ (HH.out.kept (HM3.out.bel.mono hB)) (Nat.le_trans hB HM3.out.bel.size)).mono ?_
                rintro e w3 ⟨vs, rfl, o3, b3⟩
                have HM4 := Lib.hid (HM3.out.below b3)
                have HO3 := Lib.hid o3
                have hs4 := HM4.out.size
                clear o3 b3 hc hcm hfm
                go_wp2_with (at_builtin; refine wpList_append_q _ rfl (.tmp 43) (.tmp 46) rfl (w.heap.size + 1) i0 hi0 hz0 hz1 hz2 _ _ ys (nextL p y) rfl HM4.out.queue rfl _ HO3.out (by simp at hysl ⊢; omega) (by omega) ?_; intro v5 w5 hq5 hg5)
                have HM5 := Lib.hid (HM4.out.append hq5 hg5)
                clear hq5 hg5
                go_roundg n
                case rel => exact ⟨_, _, ⟨HS3.out, HX3.out, HG3.out⟩, HM5.out⟩
                case measure => omega

end Go.Proofs.Ytbnebghpakllpaa
