/- ParseUint of the program: strconv.Atoi by the shelf's contract; what it answers is puOf's. -/
import Derived.Test.YtceicbncnhmkoaaDoorParse
import Derived.Test.YtceicbncnhmkoaaDoorItoa
import Derived.WalkSpells
namespace Go.Proofs.YtceicbncnhmkoaaDoor
open Go.RowKit Go Go.Sort

/-- The two errors that Atoi hands out, as start-up lays them, and the table of powers. -/
structure NumVars (w : World) : Prop where
  pow : Pow10 w
  syn : ∃ (a : Addr) (s : ByteArray), w.var? Tryd.prog "strconv.ErrSyntax" = some #[.iface 124 (.pointer (some a))] ∧ w.cell? a = some (.string s)
  rng : ∃ (a : Addr) (s : ByteArray), w.var? Tryd.prog "strconv.ErrRange" = some #[.iface 124 (.pointer (some a))] ∧ w.cell? a = some (.string s)
theorem gSyn : Tryd.prog.globalNamed "strconv.ErrSyntax" = some 1 := by kernel_rfl
theorem gRng : Tryd.prog.globalNamed "strconv.ErrRange" = some 2 := by kernel_rfl

theorem var_lt {w : World} {n : String} {g : Nat} {cs : Array Value} (hg : Tryd.prog.globalNamed n = some g) (hv : w.var? Tryd.prog n = some cs) : g < w.heap.size := by
  unfold World.var? at hv
  simp only [hg, Option.bind_some] at hv
  rcases Nat.lt_or_ge g w.heap.size with h | h
  · exact h
  · simp [Array.getElem?_eq_none h] at hv

theorem NumVars.below {w w' : World} {B : Nat} (h : NumVars w) (hb : Below B w w') (hB : w.heap.size ≤ B) : NumVars w' := by
  obtain ⟨hp, ⟨a, s, h1, h2⟩, ⟨b, t, h3, h4⟩⟩ := h
  exact ⟨hp.below hb hB, ⟨a, s, var?_below hb gSyn (Nat.lt_of_lt_of_le (var_lt gSyn h1) hB) h1, by rw [hb.cell (Nat.lt_of_lt_of_le (World.block_lt_of_cell? w _ h2) hB)]; exact h2⟩,
    ⟨b, t, var?_below hb gRng (Nat.lt_of_lt_of_le (var_lt gRng h3) hB) h3, by rw [hb.cell (Nat.lt_of_lt_of_le (World.block_lt_of_cell? w _ h4) hB)]; exact h4⟩⟩

theorem below_bytesWorld (w : World) (e : TypeId) (t : ByteArray) : Below w.heap.size w (Lib.bytesWorld w e t) := by
  refine ⟨rfl, rfl, rfl, ?_, fun k hk => ?_⟩
  · simp [Lib.bytesWorld, World.freeze]
  · unfold Lib.bytesWorld World.freeze
    show (Array.modify _ _ _)[k]? = _
    rw [Array.getElem?_modify, if_neg (by show w.heap.size ≠ k; omega)]
    exact Below.heap_alloc w.drew _ _ hk

/-- How Atoi answers, in one word. -/
def AtoiSaid (l : List UInt8) (w : World) (e : Ending) (w' : World) : Prop :=
  Below w.heap.size w w' ∧ ((∃ v : Int, Lib.atoiAll l = .ok v ∧ e = .returned (.tuple #[.int .i64 v, .nilIface])) ∨
    ((∀ v, Lib.atoiAll l ≠ .ok v) ∧ ∃ (v : Int) (t : TypeId) (p : Value), e = .returned (.tuple #[.int .i64 v, .iface t p])))

theorem atoi_any (s : ByteArray) (w : World) (hs : s.size ≤ 281474976710656) (hn : NumVars w) : Calls Tryd.prog 55 #[.string s] w (AtoiSaid s.data.toList w) := by
  cases ha : Lib.atoiAll s.data.toList with
  | ok v =>
    refine (Tryd.strconv_Atoi_ok s (by omega) v ha w).mono fun e w' ⟨he, hw⟩ => ⟨?_, .inl ⟨v, ha, he⟩⟩
    rcases hw with rfl | ⟨t, rfl⟩
    · exact Below.refl _ _
    · exact below_bytesWorld _ _ _
  | «syntax» =>
    obtain ⟨a, t, h1, _⟩ := hn.syn
    exact (Tryd.strconv_Atoi_syntax_var s hs ha _ _ w h1).mono fun e w' ⟨N, he, _, _, hb⟩ => ⟨hb, .inr ⟨(fun v h => by rw [ha] at h; cases h), _, _, _, he⟩⟩
  | range =>
    obtain ⟨a, t, h1, _⟩ := hn.rng
    exact (Tryd.strconv_Atoi_range_var s hs ha _ _ w h1).mono fun e w' ⟨N, he, _, _, hb⟩ => ⟨hb, .inr ⟨(fun v h => by rw [ha] at h; cases h), _, _, _, he⟩⟩

theorem pu_err {l : List UInt8} (h : ∀ v, Lib.atoiAll l ≠ .ok v) : puOf l = none := puOf_none_of fun n _ ha => absurd ha (h n)
theorem pu_out {l : List UInt8} {v : Int} (h : Lib.atoiAll l = .ok v) (hv : v < 0 ∨ 1000000000 < v) : puOf l = none := puOf_none_of fun n hn ha => by
  rw [h] at ha; cases ha; omega
theorem pu_same {s r : ByteArray} {n : Nat} (hn : n ≤ 1000000000) (hr : r = ⟨(Lib.itoa n).toArray⟩) (he : r = s) : puOf s.data.toList = some n := by
  rw [← he, hr]; exact puOf_itoa n hn
theorem pu_other {s r : ByteArray} {n : Nat} (h : Lib.atoiAll s.data.toList = .ok (n : Int)) (hr : r = ⟨(Lib.itoa n).toArray⟩) (he : r ≠ s) : puOf s.data.toList = none := puOf_none_of fun m hm ha => by
  rw [h] at ha
  have : n = m := by injection ha with e; omega
  subst this
  exact fun hl => he (by rw [hr]; exact bytes_ext (by simpa using hl.symm))

set_option maxHeartbeats 400000 in
theorem puP_any (s : ByteArray) (w : World) (hs : s.size ≤ 281474976710656) (hn : NumVars w) : Calls Tryd.prog 36 #[.string s] w (fun e w' => e = .returned (puAns (puOf s.data.toList)) ∧ Below w.heap.size w w') := by
  have HN := Lib.hid hn
  clear hn
  go_enter Tryd.func36, Tryd.ntmps36
  go_wp2_with fail
  refine (atoi_any s _ hs HN.out).mono ?_
  rintro e w1 ⟨hb1, ⟨v, ha, rfl⟩ | ⟨ha, v, t, p, rfl⟩⟩
  · have HA := Lib.hid ha
    clear ha
    by_cases hv : v < 0 ∨ 1000000000 < v
    · have hf := pu_out HA.out hv
      have HF := Lib.hid hf
      clear hf
      rcases hv with hv | hv
      all_goals go_wp2_with fail
      all_goals go_ret2
      all_goals exact ⟨ret_val (by rw [HF.out]; rfl), hb1⟩
    · obtain ⟨n, rfl⟩ := Int.eq_ofNat_of_zero_le (show 0 ≤ v by omega)
      have hn9 : n ≤ 1000000000 := by omega
      clear hv
      go_wp2_with fail
      refine (fmtP_any n _ (by omega) (by omega) (HN.out.pow.below hb1 (Nat.le_refl _))).mono ?_
      rintro e w2 ⟨rfl, hb2⟩
      have hb := hb1.trans (hb2.mono hb1.size)
      obtain ⟨r, hr⟩ : ∃ r : ByteArray, r = ⟨(Lib.itoa n).toArray⟩ := ⟨_, rfl⟩
      rw [← hr]
      have HR := Lib.hid hr
      clear hr
      by_cases heq : r = s
      · have hif := pu_same hn9 HR.out heq
        have HI := Lib.hid hif
        have hne : (r.toList == s.toList) = true := by rw [heq]; exact beq_self_eq_true _
        clear hif HR heq HA
        go_wp2_with fail
        go_ret2
        exact ⟨ret_val (by rw [HI.out]; rfl), hb⟩
      · have hif := pu_other HA.out HR.out heq
        have HI := Lib.hid hif
        have hne : (r.toList == s.toList) = false := by rw [Lib.toList_data, Lib.toList_data, beq_eq_false_iff_ne]; exact fun h => heq (bytes_ext h)
        clear hif HR heq HA
        go_wp2_with fail
        go_ret2
        exact ⟨ret_val (by rw [HI.out]; rfl), hb⟩
  · have hf := pu_err ha
    have HF := Lib.hid hf
    clear hf ha
    go_wp2_with fail
    go_ret2
    exact ⟨ret_val (by rw [HF.out]; rfl), hb1⟩
end Go.Proofs.YtceicbncnhmkoaaDoor
