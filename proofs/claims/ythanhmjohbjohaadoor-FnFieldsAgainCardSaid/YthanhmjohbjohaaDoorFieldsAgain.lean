/- FnFieldsAgain: the fields of a line, joined by single spaces, have the same fields. -/
import Derived.Test.YthanhmjohbjohaaDoorDrawLine
import Derived.Test.YthanhmjohbjohaaDoorJoin
import Derived.Test.YthanhmjohbjohaaDoorSplitP
import Derived.Test.YthanhmjohbjohaaDoorSplitS
import Derived.Test.YthanhmjohbjohaaDoorItoa
import Derived.Test.YthanhmjohbjohaaDoorNumber
namespace Go.Proofs.YthanhmjohbjohaaDoor
open Go.RowKit Go

theorem below_drewN' (w : World) (n : Nat) : Below w.heap.size w (w.drewN n) := ⟨rfl, rfl, rfl, Nat.le_refl _, fun _ _ => rfl⟩

theorem Texts.cell {w : World} {base : Nat} {a : Option Addr} {n cap : Nat} {xs : List ByteArray} (h : Texts w base (.slice a n cap) xs) (k : Nat) (hk : k < xs.length) : ∃ g, a = some ⟨g, 0, none⟩ ∧ base ≤ g ∧ g < w.heap.size ∧ w.cell? ⟨g, k, none⟩ = some (.string xs[k]) := by
  rcases h.2 with ⟨h1, h2⟩ | ⟨g, cap', cur, h1, _⟩
  · rw [h2] at hk; simp at hk
  · simp only [Value.slice.injEq] at h1
    obtain ⟨rfl, rfl, rfl⟩ := h1
    have hlt := h.lt g rfl
    have hc := World.ownsRow.cellAt h k (by simpa using hk)
    refine ⟨g, rfl, hlt.1, hlt.2, ?_⟩
    rw [hc, List.getElem?_map, List.getElem?_eq_getElem hk]
    rfl

set_option maxHeartbeats 400000 in
theorem sameT_same (v1 v2 : Value) (b1 b2 : Nat) (xs : List ByteArray) (w : World) (hl : xs.length ≤ 1000000) (h1 : Texts w b1 v1 xs) (h2 : Texts w b2 v2 xs) : Calls Tryd.prog 9 #[v1, v2] w (fun e w' => e = .returned (.bool true) ∧ Below w.heap.size w w') := by
  obtain ⟨a1, c1, rfl⟩ := h1.form
  obtain ⟨a2, c2, rfl⟩ := h2.form
  have H1 := Lib.hid h1
  have H2 := Lib.hid h2
  clear h1 h2
  go_enter Tryd.func9, Tryd.ntmps9
  go_wp2_with fail
  go_loopw [5] (fun i wr => ∃ k m : Nat, k ≤ xs.length ∧ i = .int .i64 k ∧ wr = w.drewN m) (fun i _ => xs.length - (intOf i).toNat)
  case atStart => exact ⟨0, 0, by omega, rfl, rfl⟩
  case round =>
    obtain ⟨k, m, hk, rfl, rfl⟩ := hrel
    by_cases hlt : k < xs.length
    · obtain ⟨g1, rfl, _, _, hc1⟩ := H1.out.cell k hlt
      obtain ⟨g2, rfl, _, _, hc2⟩ := H2.out.cell k hlt
      generalize xs[k] = x at *
      go_wp2_with fail
      go_quiet (fail)
      go_wp2_with fail
      go_roundw
      case rel => exact ⟨k + 1, _, by omega, by go_num, rfl⟩
      case measure => simp [intOf]; omega
    · obtain rfl : k = xs.length := by omega
      go_wp2_with fail
      go_ret
      exact ⟨rfl, below_drewN' _ _⟩

theorem minus3 : (⟨(Lib.itoa (-3)).toArray⟩ : ByteArray) = ⟨#[45, 51]⟩ := by
  rw [show (-3 : Int) = -((3 : Nat) : Int) from rfl, Lib.itoa_neg 3 (by omega)]
  rw [Lib.decDigits, dif_pos (by omega)]
  rfl

theorem joined_take {xs : List ByteArray} {k : Nat} (h : k < xs.length) : joined (xs.take (k + 1)) = joined (xs.take k) ++ xs[k] ++ sp := by
  rw [List.take_succ_eq_append_getElem h, joined_snoc]

theorem joined_take_size {xs : List ByteArray} (h : ∀ f ∈ xs, goodField f) (hl : xs.length ≤ 24) (k : Nat) : (joined (xs.take k)).size ≤ 20000 := by
  have h1 := joined_size (xs.take k) (fun f hf => h f (List.mem_of_mem_take hf))
  have h2 : (xs.take k).length ≤ 24 := by rw [List.length_take]; omega
  omega

set_option maxRecDepth 100000 in
set_option maxHeartbeats 2000000 in
theorem fnFieldsAgain_walk (a : Option Addr) (len cap : Nat) (zs : List Int) (w : World) (hr : IsRow .u8 w a len cap zs) (hp : Pow10 w) :
    Calls Tryd.prog 3 #[.slice a len cap] w fun e w' => e = .returned (.bool true) ∧ Below w.heap.size w w' := by
  have hl := hr.bytes.2
  have HBy := Lib.hid hr.bytes.1
  have HL := Lib.hid hl
  have HP := Lib.hid hp
  clear hr hp
  by_cases hbig : 1048576 < len
  · have HD := Lib.hid (show decide (1048576 < (len : Int)) = true by simp; omega)
    clear hl hbig
    go_enter Tryd.func3, Tryd.ntmps3
    go_wp2_with fail
    refine (big_any _ a len cap).mono ?_
    rw [HD.out]
    rintro e w' ⟨rfl, rfl⟩
    go_wp2_with fail
    go_ret
    exact ⟨rfl, Below.refl _ _⟩
  · have HD := Lib.hid (show decide (1048576 < (len : Int)) = false by simp; omega)
    clear hl hbig
    go_enter Tryd.func3, Tryd.ntmps3
    go_wp2_with fail
    refine (big_any _ a len cap).mono ?_
    rw [HD.out]
    rintro e w' ⟨rfl, rfl⟩
    go_wp2_with fail
    refine (drawSplitFields_any _ a len cap HL.out HBy.out).mono ?_
    rintro e w1 ⟨line, hline, rfl, hb1⟩
    have s1 := hb1.size
    go_wp2_with fail
    refine (splitP_any line _).mono ?_
    rintro e w2 ⟨v, rfl, t2, hb2⟩
    have s2 := hb2.size
    have T2 := Lib.hid t2
    clear t2
    go_wp2_with fail
    refine (splitS_any line _).mono ?_
    rintro e w3 ⟨v3, rfl, _, hb3⟩
    have s3 := hb3.size
    have T3 := Lib.hid (T2.out.below hb3)
    have B3 := Lib.hid ((hb1.trans (hb2.mono s1)).trans (hb3.mono (by omega)))
    clear T2 hb1 hb2 hb3
    cases hf : fieldsOf line with
    | none =>
      have t3 := T3.out
      rw [hf] at t3
      obtain ⟨pa, pc, rfl⟩ := t3.form
      have HM := Lib.hid (fun W h => fmtP_any (-3) W (by omega) (by omega) h)
      rw [minus3] at HM
      clear T3 t3
      have hcmp : ((⟨#[45, 51]⟩ : ByteArray).toList == (⟨#[45, 51]⟩ : ByteArray).toList) = true := by simp
      simp only [Option.isSome_none, Option.getD_none, List.length_nil]
      go_wp2_with fail
      refine (HM.out _ (HP.out.below B3.out (Nat.le_refl _))).mono ?_
      rintro e w4 ⟨rfl, hb4⟩
      go_wp2_with fail
      go_ret
      exact ⟨rfl, B3.out.trans (hb4.mono (by omega))⟩
    | some xs =>
      have t3 := T3.out
      rw [hf] at t3
      obtain ⟨hgood, hlen⟩ := fields_good hf
      have HG := Lib.hid hgood
      have HF := Lib.hid hf
      have t3 : Texts w3 w1.heap.size v xs := t3
      obtain ⟨pa, pc, rfl⟩ := t3.form
      have T3' := Lib.hid t3
      clear T3 t3 hf hgood
      simp only [Option.isSome_some]
      go_wp2_with fail
      go_loop [8, 9] (fun s i => ∃ k : Nat, k ≤ xs.length ∧ i = .int .i64 k ∧ s = .string (joined (xs.take k))) (fun _ i => 24 - (intOf i).toNat)
      case atStart => exact ⟨0, by omega, rfl, rfl⟩
      case round =>
        obtain ⟨k, hk, rfl, rfl⟩ := hrel
        have hz1 := joined_take_size HG.out hlen k
        by_cases hlt : k < xs.length
        · obtain ⟨g, rfl, _, _, hc⟩ := T3'.out.cell k hlt
          have hJ := Lib.hid (joined_take hlt)
          have hz2 : xs[k].size ≤ 600 := (HG.out _ (List.getElem_mem hlt)).2.1
          have hz3 : (joined (xs.take k) ++ xs[k]).size ≤ 21000 := by rw [size_app2]; omega
          have hz4 : sp.size = 1 := rfl
          generalize xs[k] = x at *
          go_wp2_with fail
          go_round
          case rel => exact ⟨k + 1, hlt, by go_num, by rw [hJ.out]; rfl⟩
          case measure => simp [intOf]; omega
        · obtain rfl : k = xs.length := by omega
          rw [List.take_length] at hz1
          simp only [List.take_length]
          go_wp2_with fail
          refine (splitP_any (joined xs) _).mono ?_
          rintro e w4 ⟨v4, rfl, t4, hb4⟩
          by_cases hbig : 600 < (joined xs).size
          · clear t4
            simp only [fields_long hbig, Option.isSome_none]
            go_wp2_with fail
            go_ret
            exact ⟨rfl, B3.out.trans (hb4.mono (by omega))⟩
          · have hfj := fields_joined HG.out hlen (by omega)
            have T4 := Lib.hid (show Texts w4 w3.heap.size v4 xs by rw [hfj] at t4; exact t4)
            have T5 := Lib.hid (T3'.out.below hb4)
            simp only [hfj, Option.isSome_some]
            clear t4 hfj
            go_wp2_with fail
            refine (sameT_same _ v4 _ _ xs _ (by omega) T5.out T4.out).mono ?_
            rintro e w5 ⟨rfl, hb5⟩
            go_wp2_with fail
            go_ret
            exact ⟨rfl, (B3.out.trans (hb4.mono (by omega))).trans (hb5.mono (Nat.le_trans (by omega) hb4.size))⟩

end Go.Proofs.YthanhmjohbjohaaDoor
