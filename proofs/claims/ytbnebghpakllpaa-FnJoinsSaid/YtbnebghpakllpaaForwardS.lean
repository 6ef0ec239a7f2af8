/- Joins: the model's IsForward. -/
import Derived.Test.YtbnebghpakllpaaInsideS
namespace Go.Proofs.Ytbnebghpakllpaa
open Go.RowKit Go

/-- Does a node lie between a branch and its join? -/
def betw (b j x : Int) : Bool := !decide (x ≤ b) && !decide (j ≤ x)

set_option maxRecDepth 100000 in
set_option maxHeartbeats 2000000 in
theorem sForward_any (B : Nat) (w : World) (a : Option Addr) (p : List I4) (R : List Int → Nat → Bool) (hR : AllReach p R) (RA : List Int → Int → Nat → Bool) (hRA : AllAvoid p RA) (cap : Nat) (b : Int) (hl : p.length ≤ 10000000) (h : Nums B w a (flat p)) (hB : B ≤ w.heap.size) :
    Calls Try.prog 41 #[.slice a p.length cap, .int .i64 b] w (Said (.bool (forwardQ p R RA b)) w) := by
  have g1 := Lib.hid (sBranches_any B w a p cap hl h hB)
  have g3 := Lib.hid (fun W h hB => sInside_any B W a p R hR RA hRA cap b hl h hB)
  have HH := Lib.hid h
  obtain ⟨hbx, hbl⟩ := brQ_small (p := p)
  have HBX := Lib.hid hbx
  obtain ⟨hix, hil⟩ := inside_small (p := p) (R := R) (RA := RA) (b := b)
  have HIX := Lib.hid hix
  have e : forwardQ p R RA b = (inL (brQ p) b && (insideQ p R RA b).all (betw b (joinB p R RA b))) := rfl
  rw [e]
  have hj : inL (brQ p) b = true → Hid (∀ W, Nums B W a (flat p) → B ≤ W.heap.size → Calls Try.prog 51 #[.slice a p.length cap, .int .i64 b] W (Said (.int .i64 (joinB p R RA b)) W)) := fun hm => by
    obtain ⟨hp, k, rfl, hk, hb⟩ := br_mem.1 hm
    exact fun W h hB => sJoin_any B W a p R hR RA hRA cap k hp hk hb h hB
  generalize insideQ p R RA b = xs at *
  generalize joinB p R RA b = j at *
  generalize brQ p = bb at *
  cases hin : inL bb b with
  | false =>
    have HIN := Lib.hid hin
    rw [Bool.false_and]
    clear h hR hRA e hbx hin hj hix
    go_enter Try.func41, Try.ntmps41
    go_wp2_with fail
    refine g1.out.mono ?_
    rintro e w1 ⟨v, rfl, o1, b1⟩
    obtain ⟨a1, c1, rfl⟩ := o1.form
    have HO1 := Lib.hid (o1.readA (rng_small hl HBX.out))
    have B1 := Lib.hid b1
    clear o1 b1
    go_wp2_with fail
    refine (sHas_any w1.heap.size w1 a1 bb c1 b (by omega) HO1.out (Nat.le_refl _)).mono ?_
    rw [HIN.out]
    rintro e w2 ⟨rfl, b2⟩
    have B2 := Lib.hid (B1.out.trans (b2.mono B1.out.size))
    clear b2
    go_wp2_with fail
    go_ret
    exact ⟨rfl, B2.out⟩
  | true =>
    have HIN := Lib.hid hin
    have HJ := hj hin
    rw [Bool.true_and]
    clear h hR hRA e hbx hin hj hix
    go_enter Try.func41, Try.ntmps41
    go_wp2_with fail
    refine g1.out.mono ?_
    rintro e w1 ⟨v, rfl, o1, b1⟩
    obtain ⟨a1, c1, rfl⟩ := o1.form
    have HO1 := Lib.hid (o1.readA (rng_small hl HBX.out))
    have B1 := Lib.hid b1
    clear o1 b1
    go_wp2_with fail
    refine (sHas_any w1.heap.size w1 a1 bb c1 b (by omega) HO1.out (Nat.le_refl _)).mono ?_
    rw [HIN.out]
    rintro e w2 ⟨rfl, b2⟩
    have B2 := Lib.hid (B1.out.trans (b2.mono B1.out.size))
    clear b2
    go_wp2_with fail
    refine (g3.out _ (HH.out.kept (B2.out.mono hB)) (Nat.le_trans hB B2.out.size)).mono ?_
    rintro e w3 ⟨v3, rfl, o3, b3⟩
    obtain ⟨a3, c3, rfl⟩ := o3.form
    have HO3 := Lib.hid (o3.readA (rng_small hl HIX.out))
    have B3 := Lib.hid (B2.out.trans (b3.mono B2.out.size))
    have s3 := B3.out.size
    clear o3 b3
    go_wp2_with fail
    go_loopw [6] (fun i wr => ∃ k : Nat, k ≤ xs.length ∧ i = .int .i64 k ∧ Hid (∀ x ∈ xs.take k, betw b j x = true) ∧ Below w3.heap.size w3 wr) (fun i _ => xs.length - (intOf i).toNat)
    case atStart => exact ⟨0, Nat.zero_le _, rfl, (fun x hx => by simp at hx), Below.refl _ _⟩
    case round =>
      obtain ⟨k, hk, rfl, hr, hb⟩ := hrel
      have hsz := hb.size
      have HB := Lib.hid hb
      clear hb
      by_cases hlt : k < xs.length
      · obtain ⟨g, off, rfl, hg, hc⟩ := (HO3.out.kept HB.out).2 k hlt
        have Hno := Lib.hid (allT_no (f := betw b j) hlt)
        have Hyes := Lib.hid (allT_take (f := betw b j) hlt hr.out)
        generalize xs[k] = x at *
        by_cases hxb : x ≤ b
        · have hd : decide (x ≤ b) = true := by simpa using hxb
          have HN := Lib.hid (Hno.out (by unfold betw; rw [hd]; rfl))
          have HW := Lib.hid (B3.out.trans (HB.out.mono s3))
          clear hxb
          go_wp2_with fail
          go_quiet (fail)
          go_wp2_with fail
          go_ret
          exact ⟨by rw [HN.out]; rfl, HW.out.trans (below_drewN _ _ _)⟩
        · have hd : decide (x ≤ b) = false := by simpa using hxb
          have HD := Lib.hid hd
          have hcall : ∀ W, Kept wr W → Calls Try.prog 51 #[.slice a p.length cap, .int .i64 b] W (fun e w' => e = .returned (.int .i64 j) ∧ Below W.heap.size W w') := fun W hW =>
            HJ.out W ((HH.out.kept ((B3.out.trans (HB.out.mono s3)).mono hB)).kept (hW.mono (by omega))) (by have := hW.size; omega)
          have HC := Lib.hid hcall
          have hk0 : Kept wr wr := Below.refl _ _
          have hgl : g < wr.heap.size := by omega
          clear hcall hxb
          by_cases hjx : j ≤ x
          · have HN := Lib.hid (Hno.out (by unfold betw; rw [HD.out]; simp [hjx]))
            have hjd : decide (j ≤ x) = true := by simpa using hjx
            clear hjx
            go_wp2_with fail
            go_region_held3 (fun w' => w'.cell? ⟨g, off + k, none⟩ = some (.int .i64 x)) (first | go_keep | (rw [hb1.cell (by simp; omega)]; simp [*])) ((first | (go_at_call 51; refine (HC.out _ (by first | exact Kept.drew hk0 | exact below_drewN _ _ _)).mono ?_; rintro e w1 ⟨rfl, hb1⟩)))
            have hb2 : Below wr.heap.size wr w1 := ⟨hb1.os, hb1.tape, hb1.output, hb1.size, hb1.block⟩
            have HB4 := Lib.hid (HB.out.trans (hb2.mono hsz))
            clear hb1 hb2
            have HW := Lib.hid (B3.out.trans (HB4.out.mono s3))
            go_wp2_with fail
            go_ret
            exact ⟨by rw [HN.out]; rfl, HW.out⟩
          · have HN := Lib.hid (Hyes.out (by unfold betw; rw [HD.out]; simp [hjx]))
            have hjd : decide (j ≤ x) = false := by simpa using hjx
            clear hjx
            go_wp2_with fail
            go_region_held3 (fun w' => w'.cell? ⟨g, off + k, none⟩ = some (.int .i64 x)) (first | go_keep | (rw [hb1.cell (by simp; omega)]; simp [*])) ((first | (go_at_call 51; refine (HC.out _ (by first | exact Kept.drew hk0 | exact below_drewN _ _ _)).mono ?_; rintro e w1 ⟨rfl, hb1⟩)))
            have hb2 : Below wr.heap.size wr w1 := ⟨hb1.os, hb1.tape, hb1.output, hb1.size, hb1.block⟩
            have HB4 := Lib.hid (HB.out.trans (hb2.mono hsz))
            clear hb1 hb2
            go_wp2_with fail
            go_roundw
            case rel => exact ⟨k + 1, hlt, by go_num, HN.out, HB4.out⟩
            case measure => simp [intOf]; omega
      · obtain rfl : k = xs.length := by omega
        have HN := Lib.hid (allT_yes (f := betw b j) hr.out)
        go_wp2_with fail
        go_ret
        exact ⟨by rw [HN.out]; rfl, B3.out.trans (HB.out.mono s3)⟩

end Go.Proofs.Ytbnebghpakllpaa
