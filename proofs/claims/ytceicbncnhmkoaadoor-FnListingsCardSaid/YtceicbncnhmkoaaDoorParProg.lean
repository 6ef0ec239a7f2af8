/- ParseProgram of the program. -/
import Derived.Test.YtceicbncnhmkoaaDoorTextsMore
import Derived.Test.YtceicbncnhmkoaaDoorProgP
import Derived.Test.YtceicbncnhmkoaaDoorParseInsS
namespace Go.Proofs.YtceicbncnhmkoaaDoor
open Go.RowKit Go

/-- All lines' instructions. -/
noncomputable def parseAll : List ByteArray → Option (List I4)
  | [] => some []
  | x :: xs => match parseL x with | none => none | some i => (parseAll xs).map (i :: ·)
/-- The program with these lines. -/
noncomputable def progOf (xs : List ByteArray) : Option (List I4) := match parseAll xs with | none => none | some p => if progOk p = true then some p else none

theorem parseAll_step {xs : List ByteArray} {k : Nat} (hk : k < xs.length) {ps : List I4} (h : parseAll xs = (parseAll (xs.drop k)).map (ps ++ ·)) :
    parseAll xs = match parseL xs[k] with | none => none | some i => (parseAll (xs.drop (k + 1))).map ((ps ++ [i]) ++ ·) := by
  rw [h, drop_at xs k hk]
  simp only [parseAll]
  cases parseL xs[k] with
  | none => rfl
  | some i =>
    simp only
    cases parseAll (xs.drop (k + 1)) with
    | none => rfl
    | some q => simp

theorem parseL_small {s : ByteArray} {i : I4} (h : parseL s = some i) : i64R i.o ∧ i64R i.a ∧ i64R i.b ∧ i64R i.c := by
  unfold parseL at h
  split at h
  · cases h
  · unfold parseW at h
    split at h
    · cases h
    · split at h
      · cases h
      · split at h
        · cases h
        · unfold okIns at h
          split at h
          · rename_i hok
            cases h
            obtain ⟨h0, h1, h2, h3⟩ := ok_small hok
            have := inO_iff.1 h0
            unfold smallF at h1 h2 h3
            unfold i64R
            simp only
            omega
          · cases h

/-- The instructions so far in a row of n, zeros behind them. -/
def fillQ (ps : List I4) (n : Nat) : List Int := flat ps ++ List.replicate ((n - ps.length) * 4) 0
theorem fillQ_len (ps : List I4) (n : Nat) (h : ps.length ≤ n) : (fillQ ps n).length = n * 4 := by
  unfold fillQ; rw [List.length_append, flat_len, List.length_replicate]; omega
theorem fillQ_set (ps : List I4) (n : Nat) (i : I4) (h : ps.length < n) : ((((fillQ ps n).set (ps.length * 4) i.o).set (ps.length * 4 + 1) i.a).set (ps.length * 4 + 2) i.b).set (ps.length * 4 + 3) i.c = fillQ (ps ++ [i]) n := by
  unfold fillQ
  have e : (n - ps.length) * 4 = (n - (ps ++ [i]).length) * 4 + 1 + 1 + 1 + 1 := by rw [List.length_append]; simp only [List.length_singleton]; omega
  rw [e, List.replicate_succ, List.replicate_succ, List.replicate_succ, List.replicate_succ, set4 _ _ _ _ _ _ _ _ _ _ _ (flat_len ps), flat_append]
  simp [flat]
theorem fillQ_end {ps : List I4} {n : Nat} (h : ps.length = n) : fillQ ps n = flat ps := by
  unfold fillQ; rw [h, Nat.sub_self]; simp

/-- What holds in the loop: the instructions so far, laid into the made row in block g. -/
def ParRel (xs : List ByteArray) (W : World) (g : Nat) (i : Value) (wr : World) : Prop :=
  ∃ ps : List I4, ps.length ≤ xs.length ∧ i = .int .i64 ps.length ∧ Hid (parseAll xs = (parseAll (xs.drop ps.length)).map (ps ++ ·)) ∧ Hid (∀ x ∈ flat ps, i64R x) ∧ OwnP W.heap.size wr (.slice (some ⟨g, 0, none⟩) xs.length xs.length) xs.length (fillQ ps xs.length) ∧ Below W.heap.size W wr

theorem par_start {xs : List ByteArray} {W w1 : World} (h : w1.ownsRow W.heap.size 32 4 (.slice (some ⟨W.heap.size, 0, none⟩) xs.length xs.length) xs.length (madeCells (Value.agg #[.int .i64 0, .int .i64 0, .int .i64 0, .int .i64 0]).cells (xs.length * 4)).toList) (hg : W.grownBy w1 none) : ParRel xs W W.heap.size (.int .i64 0) w1 := by
  refine ⟨[], Nat.zero_le _, rfl, ?_, fun x hx => by simp [flat] at hx, ?_, grownBy_below hg (Nat.le_refl _) (fun _ e => by cases e)⟩
  · show parseAll xs = (parseAll (xs.drop 0)).map ([] ++ ·)
    simp
  · rw [madeP] at h
    exact h
theorem flat_snoc_rng {ps : List I4} {i : I4} (h : ∀ x ∈ flat ps, i64R x) (hi : i64R i.o ∧ i64R i.a ∧ i64R i.b ∧ i64R i.c) : ∀ x ∈ flat (ps ++ [i]), i64R x := by
  intro x hx
  rw [flat_append] at hx
  rcases List.mem_append.1 hx with hx | hx
  · exact h x hx
  · simp [flat] at hx
    obtain ⟨h1, h2, h3, h4⟩ := hi
    rcases hx with rfl | rfl | rfl | rfl <;> assumption
theorem par_next {xs : List ByteArray} {W wr : World} {g : Nat} {ps : List I4} {i : I4} (hk : ps.length < xs.length) (hg : W.heap.size ≤ g) (hi : i64R i.o ∧ i64R i.a ∧ i64R i.b ∧ i64R i.c)
    (hp : parseAll xs = (parseAll (xs.drop (ps.length + 1))).map ((ps ++ [i]) ++ ·)) (hr : ∀ x ∈ flat ps, i64R x) (ho : OwnP W.heap.size wr (.slice (some ⟨g, 0, none⟩) xs.length xs.length) xs.length (fillQ ps xs.length)) (hb : Below W.heap.size W wr) :
    ParRel xs W g (.int .i64 ((ps.length : Int) + 1)) ((((wr.setCell ⟨g, ps.length * 4, none⟩ (.int .i64 i.o)).setCell ⟨g, ps.length * 4 + 1, none⟩ (.int .i64 i.a)).setCell ⟨g, ps.length * 4 + 2, none⟩ (.int .i64 i.b)).setCell ⟨g, ps.length * 4 + 3, none⟩ (.int .i64 i.c)) := by
  have hl : (ps ++ [i]).length = ps.length + 1 := by simp
  refine ⟨ps ++ [i], by omega, by rw [hl]; go_num, by rw [hl]; exact hp, flat_snoc_rng hr hi, by rw [← fillQ_set ps xs.length i hk]; exact ho.stored4 _ _ _ _ _, ?_⟩
  exact (((hb.setCell hg _).setCell hg _).setCell hg _).setCell hg _

def ParProgSaid (xs : List ByteArray) (w : World) (e : Ending) (w' : World) : Prop :=
  ∃ v, e = .returned (.tuple #[v, .bool (progOf xs).isSome]) ∧ OwnP w.heap.size w' v ((progOf xs).getD []).length (flat ((progOf xs).getD [])) ∧ Below w.heap.size w w'
theorem par_none {xs : List ByteArray} {w w' : World} {v : Value} (h : progOf xs = none) (ho : OwnP w.heap.size w' v 0 []) (hb : Below w.heap.size w w') : ParProgSaid xs w (.returned (.tuple #[v, .bool false])) w' := by
  refine ⟨v, ?_, ?_, hb⟩ <;> rw [h]
  · rfl
  · exact ho
theorem par_some {xs : List ByteArray} {w w' : World} {v : Value} {p : List I4} (h : progOf xs = some p) (ho : OwnP w.heap.size w' v p.length (flat p)) (hb : Below w.heap.size w w') : ParProgSaid xs w (.returned (.tuple #[v, .bool true])) w' := by
  refine ⟨v, ?_, ?_, hb⟩ <;> rw [h]
  · rfl
  · exact ho

set_option maxRecDepth 100000 in
set_option maxHeartbeats 1000000 in
theorem pParProg_any (w : World) (a : Option Addr) (xs : List ByteArray) (cap : Nat) (hl : xs.length ≤ 1048576) (h : WordRow w a xs) (hn : NumVars w) :
    Calls Tryd.prog 11 #[.slice a xs.length cap] w (ParProgSaid xs w) := by
  obtain ⟨i0, hi, hz0, hz1, hz2⟩ := info_parts info_ins
  have HH := Lib.hid h
  have HN := Lib.hid hn
  clear h hn
  have hm : xs.length ≤ maxLen := by unfold maxLen; omega
  go_enter Tryd.func11, Tryd.ntmps11
  go_wp2_with (at_make; refine wpList_make_full _ rfl _ _ _ rfl w.heap.size 32 i0 (.agg #[.int .i64 0, .int .i64 0, .int .i64 0, .int .i64 0]) 4 Tryd.underlying24 hi hz0 hz1 .i64 .i64 _ _ xs.length rfl rfl rfl rfl (by rw [hz2]; omega) hm (Nat.le_refl _) ?_; intro w1 hown hgrow)
  have HS := Lib.hid (par_start hown hgrow)
  clear hown hgrow
  go_wp2_with fail
  go_loopw [14] (fun i wr => ParRel xs w w.heap.size i wr) (fun i _ => xs.length - (intOf i).toNat)
  case atStart => exact HS.out
  case round =>
    obtain ⟨ps, hk, rfl, HA, HR, hown, hbel⟩ := hrel
    have hsz := hbel.size
    by_cases hlt : ps.length < xs.length
    · obtain ⟨g, off, rfl, hg, c0⟩ := (HH.out.below hbel) ps.length hlt
      have hst := parseAll_step hlt HA.out
      have hps := fun (i : I4) (h : parseL xs[ps.length] = some i) => parseL_small h
      have HO := Lib.hid hown
      have h3 := fun W hn => pParse_any xs[ps.length] W hn
      clear hown
      generalize xs[ps.length] = t at *
      cases hpl : parseL t with
      | none =>
        rw [hpl] at hst h3
        simp only at hst
        simp only [parV] at h3
        replace h3 := Lib.hid h3
        have HP := Lib.hid (show progOf xs = none by unfold progOf; rw [hst])
        clear hst hpl hps
        go_wp2_with fail
        refine (h3.out _ (HN.out.below hbel (Nat.le_refl _))).mono ?_
        rintro e w4 ⟨rfl, b4⟩
        have HB4 := Lib.hid (hbel.trans (b4.mono hsz))
        clear b4 c0
        go_wp2_with fail
        go_ret2
        exact par_none HP.out (OwnP.nil _ _) (HB4.out.alloc HB4.out.size _)
      | some i =>
        rw [hpl] at hst h3
        simp only at hst
        simp only [parV, insV] at h3
        replace h3 := Lib.hid h3
        have hsm := hps i hpl
        have HNX := Lib.hid (fun (wr : World) => @par_next xs w wr w.heap.size ps i hlt (Nat.le_refl _) hsm hst HR.out)
        clear hst hpl hps hsm
        go_wp2_with fail
        refine (h3.out _ (HN.out.below hbel (Nat.le_refl _))).mono ?_
        rintro e w4 ⟨rfl, b4⟩
        have HB4 := Lib.hid (hbel.trans (b4.mono hsz))
        have HO4 := Lib.hid (HO.out.below b4)
        have HB5 := Lib.hid (HB4.out.alloc HB4.out.size (.cells (insC i.o i.a i.b i.c) 32))
        have HO5 := Lib.hid (HO4.out.alloc (.cells (insC i.o i.a i.b i.c) 32))
        have HNX5 := Lib.hid (HNX.out _ HO5.out HB5.out)
        obtain ⟨y, d0, d1, d2, d3⟩ := HO5.out.some4 ps.length hlt
        have hfz := HO5.out.frozen
        have hps0 : (0 : Int) ≤ (ps.length : Int) := Int.natCast_nonneg _
        have hps1 : (ps.length : Int) < (xs.length : Int) := by omega
        clear b4 c0
        go_wp2_with fail
        go_roundw
        case rel => exact HNX5.out
        case measure => simp [intOf]; omega
    · have hpe : ps.length = xs.length := by omega
      have hall : parseAll xs = some ps := by
        have h := HA.out
        rw [List.drop_of_length_le (by omega)] at h
        simpa [parseAll] using h
      rw [fillQ_end hpe] at hown
      rw [← hpe] at hown
      have h4 := pProgramOk_any wr.heap.size wr _ ps ps.length (by omega) (hown.nums HR.out (Nat.le_refl _)) (Nat.le_refl _)
      rw [hpe] at h4
      have HO := Lib.hid hown
      clear hown
      cases hok : progOk ps with
      | false =>
        rw [hok] at h4
        have HP := Lib.hid (show progOf xs = none by unfold progOf; rw [hall]; simp [hok])
        replace h4 := Lib.hid h4
        clear hok hall
        go_wp2_with fail
        refine h4.out.mono ?_
        rintro e w4 ⟨rfl, b4⟩
        have HB4 := Lib.hid (hbel.trans (b4.mono hsz))
        clear b4
        go_wp2_with fail
        go_ret2
        exact par_none HP.out (OwnP.nil _ _) HB4.out
      | true =>
        rw [hok] at h4
        have HP := Lib.hid (show progOf xs = some ps by unfold progOf; rw [hall]; simp [hok])
        replace h4 := Lib.hid h4
        clear hok hall
        go_wp2_with fail
        refine h4.out.mono ?_
        rintro e w4 ⟨rfl, b4⟩
        have HB4 := Lib.hid (hbel.trans (b4.mono hsz))
        have HO4 := Lib.hid (HO.out.below b4)
        clear b4
        go_wp2_with fail
        go_ret2
        exact par_some HP.out (by rw [← hpe]; exact HO4.out) HB4.out

end Go.Proofs.YtceicbncnhmkoaaDoor
