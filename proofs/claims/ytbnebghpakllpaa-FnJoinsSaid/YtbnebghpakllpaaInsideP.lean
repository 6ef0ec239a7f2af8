/- Joins: the program's marks between a branch and its join. -/
import Derived.Test.YtbnebghpakllpaaJoinP
namespace Go.Proofs.Ytbnebghpakllpaa
open Go.RowKit Go

/-- The program's search: the marks so far, and the nodes that wait (the one at hand first). -/
structure WayP (p : List I4) (us : List Int) (c : Int) (bs : List Bool) (ys : List Int) : Prop where
  len : bs.length = 33
  rng : ∀ y ∈ ys, 0 ≤ y ∧ y ≤ p.length
  sound : ∀ k : Nat, bs.getD k false = true → ReachA p us c k
  wait : ∀ k : Nat, (k : Int) ∈ ys → (k : Int) ≠ c → ReachA p us c k
  start : ∀ m : Nat, (m : Int) ∈ us → (m : Int) ≠ c → bs.getD m false = true ∨ (m : Int) ∈ ys
  closed : ∀ k : Nat, bs.getD k false = true → ∀ m : Nat, (m : Int) ∈ nextL p k → (m : Int) ≠ c → bs.getD m false = true ∨ (m : Int) ∈ ys

theorem WayP.first {p : List I4} {us : List Int} {c : Int} (hu : ∀ u ∈ us, 0 ≤ u ∧ u ≤ p.length) : WayP p us c (List.replicate 33 false) us := by
  have hfalse : ∀ k, (List.replicate 33 false).getD k false = false := by
    intro k
    rw [List.getD_eq_getElem?_getD, List.getElem?_replicate]
    split <;> rfl
  refine ⟨by simp, hu, fun k hk => ?_, fun k hk hc => ReachA.start hk hc, fun m hm _ => .inr hm, fun k hk => ?_⟩
  · rw [hfalse] at hk; cases hk
  · rw [hfalse] at hk; cases hk

theorem WayP.old {p : List I4} {us : List Int} {c : Int} {bs : List Bool} {y : Nat} {ys : List Int} (h : WayP p us c bs ((y : Int) :: ys)) (hy : bs.getD y false = true ∨ (y : Int) = c) : WayP p us c bs ys := by
  have key : ∀ m : Nat, (m : Int) ≠ c → bs.getD m false = true ∨ (m : Int) ∈ (y : Int) :: ys → bs.getD m false = true ∨ (m : Int) ∈ ys := by
    rintro m hc (h1 | h1)
    · exact .inl h1
    · rcases List.mem_cons.1 h1 with h2 | h2
      · obtain rfl : m = y := by omega
        exact .inl (hy.resolve_right hc)
      · exact .inr h2
  exact ⟨h.len, fun x hx => h.rng x (List.mem_cons_of_mem _ hx), h.sound, fun k hk hc => h.wait k (List.mem_cons_of_mem _ hk) hc, fun m hm hc => key m hc (h.start m hm hc), fun k hk m hm hc => key m hc (h.closed k hk m hm hc)⟩

theorem WayP.new {p : List I4} {us : List Int} {c : Int} {bs : List Bool} {y : Nat} {ys : List Int} (hp : progOk p = true) (h : WayP p us c bs ((y : Int) :: ys)) (hyc : (y : Int) ≠ c) : WayP p us c (bs.set y true) (nextL p y ++ ys) := by
  have h32 := progOk_len hp
  have hr := h.rng y (by simp)
  have hlen : y < bs.length := by rw [h.len]; omega
  have hya := h.wait y (by simp) hyc
  have key : ∀ m : Nat, bs.getD m false = true ∨ (m : Int) ∈ (y : Int) :: ys → (bs.set y true).getD m false = true ∨ (m : Int) ∈ nextL p y ++ ys := by
    intro m hm
    rw [getD_set hlen]
    by_cases e : m = y
    · rw [if_pos e]; exact .inl rfl
    · rw [if_neg e]
      rcases hm with h1 | h1
      · exact .inl h1
      · rcases List.mem_cons.1 h1 with h2 | h2
        · omega
        · exact .inr (List.mem_append_right _ h2)
  refine ⟨by rw [List.length_set]; exact h.len, fun x hx => ?_, fun k hk => ?_, fun k hk hc => ?_, fun m hm hc => key m (h.start m hm hc), fun k hk m hm hc => ?_⟩
  · rcases List.mem_append.1 hx with h1 | h1
    · exact nextL_rng hp _ x h1
    · exact h.rng x (List.mem_cons_of_mem _ h1)
  · rw [getD_set hlen] at hk
    by_cases e : k = y
    · subst e; exact hya
    · rw [if_neg e] at hk; exact h.sound k hk
  · rcases List.mem_append.1 hk with h1 | h1
    · exact hya.step h1 hc
    · exact h.wait k (List.mem_cons_of_mem _ h1) hc
  · rw [getD_set hlen] at hk
    by_cases e : k = y
    · subst e; exact .inr (List.mem_append_left _ hm)
    · rw [if_neg e] at hk; exact key m (h.closed k hk m hm hc)

theorem WayP.same {p : List I4} {us : List Int} {c : Int} {bs : List Bool} {ys zs : List Int} (h : WayP p us c bs ys) (he : ∀ x, x ∈ zs ↔ x ∈ ys) : WayP p us c bs zs :=
  ⟨h.len, fun x hx => h.rng x ((he x).1 hx), h.sound, fun k hk hc => h.wait k ((he _).1 hk) hc, fun m hm hc => (h.start m hm hc).imp id (he _).2, fun k hk m hm hc => (h.closed k hk m hm hc).imp id (he _).2⟩

/-- When none waits, the marks say what is reached. -/
theorem WayP.all {p : List I4} {us : List Int} {c : Int} {bs : List Bool} {f : Nat → Bool} (h : WayP p us c bs []) (hf : ∀ k, f k = true ↔ ReachA p us c k) : bs = (List.range 33).map f := by
  have key : ∀ k, ReachA p us c k → bs.getD k false = true := fun k hk =>
    hk (fun k => bs.getD k false = true) (fun m hm hc => by simpa using h.start m hm hc) (fun k hk m hm hc => by simpa using h.closed k hk m hm hc)
  apply List.ext_getElem
  · rw [h.len, List.length_map, List.length_range]
  · intro k h1 h2
    rw [List.getElem_map, List.getElem_range]
    have e : bs.getD k false = bs[k] := by rw [List.getD_eq_getElem?_getD, List.getElem?_eq_getElem h1]; rfl
    rw [← e, Bool.eq_iff_iff, hf k]
    exact ⟨h.sound k, key k⟩

theorem count_33 {bs : List Bool} (h : bs.length = 33) : bs.count true ≤ 33 := by
  have := List.count_le_length (a := true) (l := bs)
  rw [← h]; exact this

/-- An instruction has one successor or two. -/
theorem next_one {p : List I4} {k : Nat} (hk : k < p.length) : 1 ≤ (nextL p k).length := by
  rw [nextL_at hk]
  unfold nextI
  repeat' split
  · simp
  · simp
  · rcases Nat.eq_zero_or_pos (ascOf [p[k].b, (k : Int) + 1]).length with h | h
    · have := ((ascOf_asc [p[k].b, (k : Int) + 1]).2 p[k].b).2 (by simp)
      rw [List.eq_nil_of_length_eq_zero h] at this
      cases this
    · exact h
  · simp

/-- No way comes to the exit ahead of the join. -/
theorem exit_out {p : List I4} {R : List Int → Nat → Bool} {RA : List Int → Int → Nat → Bool} (hR : AllReach p R) (hRA : AllAvoid p RA) {b : Nat} (hp : progOk p = true) (hb : b < p.length) (hbr : isBr p b = true) : ¬ ReachA p (nextL p b) (joinB p R RA b) p.length := by
  intro h
  cases hall : (nextL p b).all fun m => exitQ p R m with
  | false =>
    have e : joinB p R RA b = p.length := by unfold joinB; rw [Int.toNat_natCast, hall, if_neg (by simp)]
    rw [e] at h
    exact h.ne rfl
  | true =>
    rw [List.all_eq_true] at hall
    obtain ⟨j, ej, _, hj⟩ := join_node hR hRA hp hb hbr
    rw [ej] at h
    obtain ⟨m, hm, hr⟩ := ReachA.split.1 h
    exact hj m hm (hall _ hm) hr

theorem marks_start0 {w w1 : World} {v : Value} {us : List Int} {zs : List Value} (hz : zs = List.replicate 33 (Value.bool false))
    (ho : Own ((w.alloc (.cells zs.toArray 50)).alloc (.cells zs.toArray 50)).heap.size w1 v us)
    (hb : Below ((w.alloc (.cells zs.toArray 50)).alloc (.cells zs.toArray 50)).heap.size ((w.alloc (.cells zs.toArray 50)).alloc (.cells zs.toArray 50)) w1) :
    MW w w1 v (List.replicate 33 false) us := by
  subst hz
  have e1 : List.replicate 33 (Value.bool false) = (List.replicate 33 false).map .bool := by rw [List.map_replicate]
  rw [e1] at ho hb
  have hs : ((w.alloc (.cells ((List.replicate 33 false).map Value.bool).toArray 50)).alloc (.cells ((List.replicate 33 false).map Value.bool).toArray 50)).heap.size = w.heap.size + 2 := by simp
  rw [hs] at ho
  refine ⟨ho, OwnB.below (OwnB.made _ _ (by simp) (Nat.le_refl _) (by unfold maxLen; simp)) hb, OwnB.below (OwnB.alloc (OwnB.made _ _ rfl (Nat.le_refl _) (by unfold maxLen; simp)) _) hb, (below2 _ _ _).trans (hb.mono (by rw [hs]; omega))⟩

theorem in_lt {p : List I4} {us : List Int} {c : Int} {bs : List Bool} {z : Nat} {ys : List Int} (hx : ¬ ReachA p us c p.length) (h : WayP p us c bs ((z : Int) :: ys)) (hz : (z : Int) ≠ c) : z < p.length := by
  have h1 := h.wait z (by simp) hz
  have h2 := (h.rng z (by simp)).2
  rcases Nat.lt_or_ge z p.length with h3 | h3
  · exact h3
  · obtain rfl : z = p.length := by omega
    exact absurd h1 hx

theorem in_two {p : List I4} {us : List Int} {c : Int} {bs : List Bool} {x0 x1 : Int} {j : Nat} {xs : List Int} (hj : j + 1 ≤ xs.length) (h : WayP p us c bs ([x0, x1] ++ xs.drop (j + 1))) : WayP p us c bs (x0 :: (xs ++ [x1]).drop (j + 1)) := by
  refine h.same fun x => ?_
  rw [List.drop_append_of_le_length hj]
  simp only [List.mem_cons, List.mem_append, List.not_mem_nil, or_false]
  constructor
  · rintro (h | h | h)
    · exact .inl (.inl h)
    · exact .inr h
    · exact .inl (.inr h)
  · rintro ((h | h) | h)
    · exact .inl h
    · exact .inr (.inr h)
    · exact .inr (.inl h)

/-- While a way is followed. -/
def InRel (p : List I4) (us : List Int) (c : Int) (w : World) (j g : Nat) (v n : Value) (wr : World) : Prop :=
  ∃ (y : Nat) (bs : List Bool) (xs : List Int), n = .int .i64 y ∧ Hid (WayP p us c bs ((y : Int) :: xs.drop (j + 1)) ∧ xs.length ≤ 2 + bs.count true ∧ j + 1 ≤ xs.length ∧ 33 - bs.count true ≤ g) ∧ MW w wr v bs xs

set_option maxRecDepth 100000 in
set_option maxHeartbeats 1000000 in
theorem pMarksIn_any (B : Nat) (w : World) (a : Option Addr) (p : List I4) (cap b : Nat) (c : Int) (hp : progOk p = true) (hb : b ≤ p.length) (hx : ¬ ReachA p (nextL p b) c p.length) (h : Nums B w a (flat p)) (hB : B ≤ w.heap.size) (f : Nat → Bool) (hf : ∀ k, f k = true ↔ ReachA p (nextL p b) c k) :
    Calls Try.prog 52 #[.slice a p.length cap, .int .i64 b, .int .i64 c] w (Said (.agg (marksA f)) w) := by
  obtain ⟨i0, hi0, hz0, hz1, hz2⟩ := info_parts info_int
  have h32 := progOk_len hp
  have HH := Lib.hid h
  have HP := Lib.hid hp
  have HF := Lib.hid hf
  have HX := Lib.hid hx
  have H0 := Lib.hid (WayP.first (p := p) (us := nextL p b) (c := c) (nextL_rng hp b))
  have hnb := nextL_le p b
  have h1 := Lib.hid (fun W h hB => pSucc_any B W a p cap b (by omega) (by omega) h hB)
  have HA := Lib.hid (fun v (e : v = Value.agg (((List.range 33).map f).map Value.bool).toArray) => (show v = .agg (marksA f) from e))
  generalize marksA f = A at *
  generalize hus : nextL p b = us at *
  have HUS := Lib.hid hus
  clear h hp hf hx hus
  go_enter Try.func52, Try.ntmps52
  go_wp2_with fail
  refine (h1.out _ (HH.out.kept ((below2 _ _ _).mono hB)) (by simp; omega)).mono ?_
  rintro e w1 ⟨v, rfl, o1, b1⟩
  have HM1 := Lib.hid (marks_start0 rfl o1 b1)
  clear o1 b1
  go_wp2_with fail
  go_loopw [8, 9] (fun v i wr => ∃ (j : Nat) (bs : List Bool) (xs : List Int), i = .int .i64 j ∧ Hid (WayP p us c bs (xs.drop j) ∧ xs.length ≤ 2 + bs.count true ∧ j ≤ xs.length) ∧ MW w wr v bs xs) (fun _ i _ => 36 - (intOf i).toNat)
  case atStart => exact ⟨0, _, _, rfl, ⟨H0.out, by omega, Nat.zero_le _⟩, HM1.out⟩
  case round =>
    obtain ⟨j, bs, xs, rfl, hF, hM⟩ := hrel
    have hxl := hF.out.2.1
    have hjl := hF.out.2.2
    have hc33 := count_33 hF.out.1.len
    have hsz := hM.size
    have HM := Lib.hid hM
    obtain ⟨av, cv, rfl⟩ := hM.own.form
    clear hM
    by_cases hlt : j < xs.length
    · obtain ⟨gv, rfl, _, _, hc⟩ := HM.out.own.cell j hlt
      have hdr := List.drop_eq_getElem_cons hlt
      generalize xs[j] = y at *
      have hyr := hF.out.1.rng y (by rw [hdr]; simp)
      obtain ⟨y, rfl⟩ := Int.eq_ofNat_of_zero_le hyr.1
      have HDR := Lib.hid hdr
      clear hdr
      go_wp2_with fail
      go_step3
      go_wp2_with fail
      go_step3
      go_wp2_with fail
      go_loopg [8, 10] 33 (fun g v n w2 => InRel p us c w j g v n w2)
      case atStart => exact ⟨y, bs, xs, rfl, ⟨by rw [← HDR.out]; exact hF.out.1, hF.out.2.1, hlt, by omega⟩, HM.out⟩
      case round =>
        obtain ⟨z, bs2, xs2, rfl, hF2, hM2⟩ := hrel
        have HM2 := Lib.hid hM2
        have hsz2 := hM2.size
        have hlen2 := hF2.out.1.len
        have hxl2 := hF2.out.2.1
        have hj2 := hF2.out.2.2.1
        have hg2 := hF2.out.2.2.2
        have hc33b := count_33 hlen2
        have hzr := hF2.out.1.rng z (by simp)
        obtain ⟨av2, cv2, rfl⟩ := hM2.own.form
        have hcm := HM2.out.marks.cell z (by omega)
        have hfm := HM2.out.marks.frozen z
        clear hM2 hlen2
        cases hb2 : bs2.getD z false with
        | true =>
          rw [hb2] at hcm
          have HB2 := Lib.hid hb2
          clear hb2
          go_wp2_with fail
          rw [Exit.noGoto_normal]
          go_wp2_with fail
          go_roundw
          case rel => exact ⟨j + 1, bs2, xs2, by go_num, ⟨hF2.out.1.old (.inl HB2.out), hF2.out.2.1, hF2.out.2.2.1⟩, HM2.out⟩
          case measure => simp [intOf]; omega
        | false =>
          rw [hb2] at hcm
          have HB2 := Lib.hid hb2
          have h3 := Lib.hid (pSucc_any B wr a p cap z (by omega) (by omega) (HH.out.kept (HM2.out.bel.mono hB)) (Nat.le_trans hB HM2.out.bel.size))
          clear hb2
          go_wp2_with fail
          refine h3.out.mono ?_
          rintro e w3 ⟨vs, rfl, o3, b3⟩
          have s3 := b3.size
          have HM3 := Lib.hid (HM2.out.below b3)
          have HNE := Lib.hid (fun cc (hc : vs.ownBlock = some cc) (e : (Value.slice av2 xs2.length cv2).ownBlock = some cc) => (show False by
            have h2 := (World.ownsRow.lt o3 cc hc).1
            have h3 := (World.ownsRow.lt HM2.out.own cc e).2
            omega))
          have HO3 := Lib.hid (o3.lower (show w.heap.size + 2 ≤ wr.heap.size from hsz2))
          have hcm3 := HM3.out.marks.cell z (by rw [hF2.out.1.len]; omega)
          have hfm3 := HM3.out.marks.frozen z
          rw [HB2.out] at hcm3
          obtain ⟨asl, csl, rfl⟩ := o3.form
          clear o3 b3 hcm hfm
          by_cases hzc : (z : Int) = c
          · have hzce : ((z : Int) == c) = true := by simpa using hzc
            have HZC := Lib.hid hzc
            have hyl := nextL_le p z
            clear hzc
            go_wp2_with fail
            rw [Exit.noGoto_normal]
            go_wp2_with fail
            go_roundw
            case rel => exact ⟨j + 1, bs2, xs2, by go_num, ⟨hF2.out.1.old (.inr HZC.out), hF2.out.2.1, hF2.out.2.2.1⟩, HM3.out⟩
            case measure => simp [intOf]; omega
          · have hzce : ((z : Int) == c) = false := by simpa using hzc
            have hzl : z < p.length := in_lt HX.out hF2.out.1 hzc
            have hnew := hF2.out.1.new HP.out hzc
            have hct : (bs2.set z true).count true = bs2.count true + 1 := count_set (by rw [hF2.out.1.len]; omega) HB2.out
            have hc33c := count_33 hnew.len
            obtain ⟨gn, rfl⟩ : ∃ n, gk = n + 1 := ⟨gk - 1, by omega⟩
            have hln := next_one hzl
            have hyl := nextL_le p z
            generalize nextL p z = ys at *
            have HCT := Lib.hid hct
            clear hct
            obtain ⟨x0, ys, rfl⟩ : ∃ x zs, ys = x :: zs := by cases ys with
              | nil => simp at hln
              | cons x zs => exact ⟨x, zs, rfl⟩
            have hx0 := hnew.rng x0 (by simp)
            obtain ⟨x0, rfl⟩ := Int.eq_ofNat_of_zero_le hx0.1
            obtain ⟨gs, rfl, hgs, hgs3, hcs0⟩ := HO3.out.cell 0 (by simp)
            have HNW := Lib.hid hnew
            clear hnew hzc hln
            cases ys with
            | nil =>
              have HM4 := Lib.hid (HM3.out.set z)
              go_wp2_with fail
              go_roundg gn
              case rel => exact ⟨x0, _, xs2, rfl, ⟨HNW.out, by rw [HCT.out]; omega, hj2, by rw [HCT.out]; omega⟩, HM4.out⟩
              case measure => omega
            | cons x1 ys =>
              obtain rfl : ys = [] := List.eq_nil_of_length_eq_zero (by rw [List.length_cons, List.length_cons] at hyl; omega)
              obtain ⟨gs', egs, _, _, hcs1⟩ := HO3.out.cell 1 (by simp)
              cases egs
              have hcs1 : w3.cell? ⟨gs, 1, none⟩ = some (.int .i64 x1) := hcs1
              have hgs' : w.heap.size + 1 < gs := by omega
              have hsl2 : xs2.length ≤ 1000 := by omega
              go_wp2_with (at_builtin; go_loud (refine wpList_append_own_at _ rfl _ _ 26 rfl (w.heap.size + 2) 3 i0 (.int .i64 0) 1 8 Try.underlying26 hi0 hz0 hz1 hz2 rfl (by decide) _ _ _ rfl (World.ownsRow.alloc HM3.out.own (.cells #[.int .i64 x1] 3)) ⟨w3.heap.size, 0, none⟩ 1 1 [.int .i64 x1] rfl rfl (cell_one_new _ _ _) (by simp [Value.oneCell']) (by unfold maxLen; omega) (by omega) (by simp; omega) ?_); intro v4 w4 hown4 hgrow4 _ hat4; have HM4 := Lib.hid (HM3.out.appended hown4 hgrow4); have HO4 := Lib.hid ((HO3.out.alloc _).grown hgrow4 (fun k hk => .inr fun cc hc e => HNE.out cc hc (by rw [e]; exact hk))); have hcm4 := HM4.out.marks.cell z (by rw [hF2.out.1.len]; omega); have hfm4 := HM4.out.marks.frozen z; obtain ⟨gs4, egs4, _, _, hcs4'⟩ := HO4.out.cell 0 (by simp); cases egs4; have hcs4 : w4.cell? ⟨gs, 0, none⟩ = some (.int .i64 (x0 : Int)) := hcs4'; clear hcs4'; clear hown4 hgrow4 hat4)
              have HM5 := Lib.hid (HM4.out.set z)
              go_roundg gn
              case rel => exact ⟨x0, _, xs2 ++ [x1], rfl, ⟨in_two hj2 HNW.out, by rw [HCT.out, List.length_append]; simp; omega, by rw [List.length_append]; omega, by rw [HCT.out]; omega⟩, HM5.out⟩
              case measure => omega
    · obtain rfl : j = xs.length := by omega
      have hbs := (show WayP p us c bs [] by have h := hF.out.1; rwa [List.drop_length] at h).all HF.out
      subst hbs
      have HR := Lib.hid HM.out.marks.range
      have HT := Lib.hid (HM.out.res.there (n := (((List.range 33).map f).map Value.bool).toArray.size) (by simp))
      have HONE := Lib.hid (all_oneCell_toArray (cs := ((List.range 33).map f).map Value.bool) (by intro v hv; obtain ⟨b, _, rfl⟩ := List.mem_map.1 hv; rfl))
      go_wp2_with (first
        | (refine wpList_load_mid rfl 50 (.tmp 7) rfl (w.heap.size + 1) 0 rfl _ (.array 33 4) HR.out rfl rfl (by kernel_rfl) ?_)
        | (refine wpList_store_mid rfl 50 (.tmp 6) (.tmp 51) rfl w.heap.size 0 (((List.range 33).map f).map Value.bool).toArray rfl rfl HT.out (by kernel_rfl) HONE.out ?_))
      have HR2 := Lib.hid (World.rangeAt_setCells_same wr w.heap.size 0 (((List.range 33).map f).map Value.bool) (by have h := HT.out; rwa [List.size_toArray] at h))
      exact bodyPost_ret (v := .agg (((List.range 33).map f).map Value.bool).toArray) (results_cell_mid Try.results52 _ _ _ _ _ (.array 33 4) rfl HR2.out rfl rfl (by kernel_rfl)) rfl ⟨congrArg _ (HA.out _ rfl), below_setCells _ 0 HM.out.bel (Nat.le_refl _)⟩

end Go.Proofs.Ytbnebghpakllpaa
