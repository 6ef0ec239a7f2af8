/- Joins: the model's functions. -/
import Derived.Test.YtbnebghpakllpaaAfterM
namespace Go.Proofs.Ytbnebghpakllpaa
open Go.RowKit Go

/-- The join of a branch. -/
def joinB (p : List I4) (R : List Int → Nat → Bool) (RA : List Int → Int → Nat → Bool) (b : Int) : Int := if (nextL p b.toNat).all (fun m => exitQ p R m) = true then firstQ p R RA b else p.length
def joinOfQ (p : List I4) (R : List Int → Nat → Bool) (RA : List Int → Int → Nat → Bool) (b : Int) : Int := if inL (brQ p) b = true then joinB p R RA b else -1
def joinsQ (p : List I4) (R : List Int → Nat → Bool) (RA : List Int → Int → Nat → Bool) : List Int := (brQ p).map (joinB p R RA)
def insideQ (p : List I4) (R : List Int → Nat → Bool) (RA : List Int → Int → Nat → Bool) (b : Int) : List Int := if inL (brQ p) b = true then nodesTo (RA (nextL p b.toNat) (joinB p R RA b)) (p.length + 1) else []
def isInsideQ (p : List I4) (R : List Int → Nat → Bool) (RA : List Int → Int → Nat → Bool) (b x : Int) : Bool := inL (insideQ p R RA b) x
def forwardQ (p : List I4) (R : List Int → Nat → Bool) (RA : List Int → Int → Nat → Bool) (b : Int) : Bool := inL (brQ p) b && (insideQ p R RA b).all fun x => !decide (x ≤ b) && !decide (joinB p R RA b ≤ x)

theorem br_mem {p : List I4} {b : Int} : inL (brQ p) b = true ↔ progOk p = true ∧ ∃ k : Nat, b = k ∧ k < p.length ∧ isBr p k = true := by
  unfold inL brQ
  rw [List.contains_iff_mem]
  split
  · rename_i h
    rw [nodesTo_mem]
    constructor
    · rintro ⟨i, h1, h2, rfl⟩; exact ⟨h, i, rfl, h1, h2⟩
    · rintro ⟨_, i, rfl, h1, h2⟩; exact ⟨i, h1, h2, rfl⟩
  · rename_i h
    constructor
    · intro h1; cases h1
    · rintro ⟨h1, _⟩; exact absurd h1 h
theorem brQ_small {p : List I4} : (∀ x ∈ brQ p, 0 ≤ x ∧ x ≤ p.length) ∧ (brQ p).length ≤ 32 := by
  unfold brQ
  split
  · rename_i h
    have h32 := progOk_len h
    exact ⟨(fun x hx => by obtain ⟨i, h1, _, rfl⟩ := nodesTo_mem.1 hx; omega), Nat.le_trans (nodesTo_le _ _) h32⟩
  · exact ⟨(fun x hx => by cases hx), by simp⟩
theorem branch_all {p : List I4} {b : Nat} (hb : b < p.length) (h : isBr p b = true) (f : Int → Bool) : (nextL p b).all f = (f ((b : Int) + 1) && f p[b].b) := by
  rw [isBr_at hb] at h
  obtain ⟨h10, hne⟩ := Bool.and_eq_true_iff.1 h
  rw [decide_eq_true_eq] at h10
  rw [nextL_at hb]
  unfold nextI
  rw [if_neg (by omega), if_neg (by omega), if_pos h10, Bool.eq_iff_iff, List.all_eq_true, Bool.and_eq_true]
  constructor
  · intro h1
    exact ⟨h1 _ (((ascOf_asc _).2 _).2 (by simp)), h1 _ (((ascOf_asc _).2 _).2 (by simp))⟩
  · rintro ⟨h1, h2⟩ m hm
    have := ((ascOf_asc _).2 m).1 hm
    simp only [List.mem_cons, List.not_mem_nil, or_false] at this
    rcases this with rfl | rfl
    · exact h2
    · exact h1

set_option maxRecDepth 100000 in
set_option maxHeartbeats 1000000 in
theorem sJoin_any (B : Nat) (w : World) (a : Option Addr) (p : List I4) (R : List Int → Nat → Bool) (hR : AllReach p R) (RA : List Int → Int → Nat → Bool) (hRA : AllAvoid p RA) (cap b : Nat) (hp : progOk p = true) (hb : b < p.length) (hbr : isBr p b = true) (h : Nums B w a (flat p)) (hB : B ≤ w.heap.size) :
    Calls Try.prog 51 #[.slice a p.length cap, .int .i64 b] w (Said (.int .i64 (joinB p R RA b)) w) := by
  have h32 := progOk_len hp
  have hl : p.length ≤ 10000000 := by omega
  have HH := Lib.hid h
  have e : joinB p R RA b = if (exitQ p R ((b : Int) + 1) && exitQ p R p[b].b) = true then firstQ p R RA b else p.length := by
    unfold joinB
    rw [Int.toNat_natCast, branch_all hb hbr]
  rw [e]
  have h1 := Lib.hid (fun W k h hB => sReachesExit_any B W a p R hR cap k hl h hB)
  have h2 := Lib.hid (fun W h hB => sFirstAfter_any B W a p R hR RA hRA cap b hl h hB)
  obtain ⟨g, off, rfl, hg, c0, c1, c2, c3⟩ := h.at4 b hb
  have hgl : g < w.heap.size := by omega
  generalize p[b] = x at *
  have g1 := Lib.hid (fun W h hB => h1.out W ((b : Int) + 1) h hB)
  have g2 := Lib.hid (fun W h hB => h1.out W x.b h hB)
  generalize exitQ p R ((b : Int) + 1) = t at *
  generalize exitQ p R x.b = u at *
  generalize firstQ p R RA b = f at *
  clear h hR hRA e h1 hp hbr c0 c1 c3
  cases t with
  | false =>
    rw [Bool.false_and, if_neg (by simp)]
    go_enter Try.func51, Try.ntmps51
    go_wp2_with fail
    refine (g1.out _ HH.out hB).mono ?_
    rintro e w1 ⟨rfl, b1⟩
    go_wp2_with fail
    go_ret
    exact ⟨rfl, b1⟩
  | true =>
    rw [Bool.true_and]
    cases u with
    | false =>
      rw [if_neg (by simp)]
      go_enter Try.func51, Try.ntmps51
      go_wp2_with fail
      refine (g1.out _ HH.out hB).mono ?_
      rintro e w1 ⟨rfl, b1⟩
      have d2 : w1.cell? ⟨g, off + b * 4 + 2, none⟩ = some (.int .i64 x.b) := by rw [b1.cell (p := ⟨g, off + b * 4 + 2, none⟩) hgl]; exact c2
      have hgl1 : g < w1.heap.size := Nat.lt_of_lt_of_le hgl b1.size
      have B1 := Lib.hid b1
      clear b1 c2
      go_wp2_with fail
      refine (g2.out _ (HH.out.kept (B1.out.mono hB)) (Nat.le_trans hB B1.out.size)).mono ?_
      rintro e w2 ⟨rfl, b2⟩
      have B2 := Lib.hid (B1.out.trans (b2.mono B1.out.size))
      clear b2
      go_wp2_with fail
      go_ret
      exact ⟨rfl, B2.out⟩
    | true =>
      rw [if_pos rfl]
      go_enter Try.func51, Try.ntmps51
      go_wp2_with fail
      refine (g1.out _ HH.out hB).mono ?_
      rintro e w1 ⟨rfl, b1⟩
      have d2 : w1.cell? ⟨g, off + b * 4 + 2, none⟩ = some (.int .i64 x.b) := by rw [b1.cell (p := ⟨g, off + b * 4 + 2, none⟩) hgl]; exact c2
      have hgl1 : g < w1.heap.size := Nat.lt_of_lt_of_le hgl b1.size
      have B1 := Lib.hid b1
      clear b1 c2
      go_wp2_with fail
      refine (g2.out _ (HH.out.kept (B1.out.mono hB)) (Nat.le_trans hB B1.out.size)).mono ?_
      rintro e w2 ⟨rfl, b2⟩
      have B2 := Lib.hid (B1.out.trans (b2.mono B1.out.size))
      clear b2
      go_wp2_with fail
      refine (h2.out _ (HH.out.kept (B2.out.mono hB)) (Nat.le_trans hB B2.out.size)).mono ?_
      rintro e w3 ⟨rfl, b3⟩
      have B3 := Lib.hid (B2.out.trans (b3.mono B2.out.size))
      clear b3
      go_wp2_with fail
      go_ret
      exact ⟨rfl, B3.out⟩

set_option maxRecDepth 100000 in
set_option maxHeartbeats 1000000 in
theorem sJoinOf_any (B : Nat) (w : World) (a : Option Addr) (p : List I4) (R : List Int → Nat → Bool) (hR : AllReach p R) (RA : List Int → Int → Nat → Bool) (hRA : AllAvoid p RA) (cap : Nat) (b : Int) (hl : p.length ≤ 10000000) (h : Nums B w a (flat p)) (hB : B ≤ w.heap.size) :
    Calls Try.prog 38 #[.slice a p.length cap, .int .i64 b] w (Said (.int .i64 (joinOfQ p R RA b)) w) := by
  have h1 := Lib.hid (sBranches_any B w a p cap hl h hB)
  have HH := Lib.hid h
  have e : joinOfQ p R RA b = if inL (brQ p) b = true then joinB p R RA b else -1 := rfl
  rw [e]
  obtain ⟨hbr, hbl⟩ := brQ_small (p := p)
  have HBR := Lib.hid hbr
  have hj : inL (brQ p) b = true → Hid (∀ W, Nums B W a (flat p) → B ≤ W.heap.size → Calls Try.prog 51 #[.slice a p.length cap, .int .i64 b] W (Said (.int .i64 (joinB p R RA b)) W)) := fun hm => by
    obtain ⟨hp, k, rfl, hk, hb⟩ := br_mem.1 hm
    exact fun W h hB => sJoin_any B W a p R hR RA hRA cap k hp hk hb h hB
  generalize joinB p R RA b = j at *
  generalize brQ p = bs at *
  cases hin : inL bs b with
  | false =>
    have HIN := Lib.hid hin
    rw [if_neg (by simp)]
    clear h hR hRA e hbr hj hin
    go_enter Try.func38, Try.ntmps38
    go_wp2_with fail
    refine h1.out.mono ?_
    rintro e w1 ⟨v, rfl, o1, b1⟩
    obtain ⟨a1, c1, rfl⟩ := o1.form
    have HO1 := Lib.hid (o1.readA (rng_small hl HBR.out))
    have B1 := Lib.hid b1
    clear o1 b1
    go_wp2_with fail
    refine (sHas_any w1.heap.size w1 a1 bs c1 b (by omega) HO1.out (Nat.le_refl _)).mono ?_
    rw [HIN.out]
    rintro e w2 ⟨rfl, b2⟩
    have B2 := Lib.hid (B1.out.trans (b2.mono B1.out.size))
    clear b2
    go_wp2_with fail
    go_ret
    exact ⟨rfl, B2.out⟩
  | true =>
    have HIN := Lib.hid hin
    have HJ := hj hin
    rw [if_pos rfl]
    clear h hR hRA e hbr hj hin
    go_enter Try.func38, Try.ntmps38
    go_wp2_with fail
    refine h1.out.mono ?_
    rintro e w1 ⟨v, rfl, o1, b1⟩
    obtain ⟨a1, c1, rfl⟩ := o1.form
    have HO1 := Lib.hid (o1.readA (rng_small hl HBR.out))
    have B1 := Lib.hid b1
    clear o1 b1
    go_wp2_with fail
    refine (sHas_any w1.heap.size w1 a1 bs c1 b (by omega) HO1.out (Nat.le_refl _)).mono ?_
    rw [HIN.out]
    rintro e w2 ⟨rfl, b2⟩
    have B2 := Lib.hid (B1.out.trans (b2.mono B1.out.size))
    clear b2
    go_wp2_with fail
    refine (HJ.out _ (HH.out.kept (B2.out.mono hB)) (Nat.le_trans hB B2.out.size)).mono ?_
    rintro e w3 ⟨rfl, b3⟩
    have B3 := Lib.hid (B2.out.trans (b3.mono B2.out.size))
    clear b3
    go_wp2_with fail
    go_ret
    exact ⟨rfl, B3.out⟩

set_option maxRecDepth 100000 in
set_option maxHeartbeats 1000000 in
theorem sJoins_any (B : Nat) (w : World) (a : Option Addr) (p : List I4) (R : List Int → Nat → Bool) (hR : AllReach p R) (RA : List Int → Int → Nat → Bool) (hRA : AllAvoid p RA) (cap : Nat) (hl : p.length ≤ 10000000) (h : Nums B w a (flat p)) (hB : B ≤ w.heap.size) :
    Calls Try.prog 22 #[.slice a p.length cap] w (RowSaid (joinsQ p R RA) w) := by
  obtain ⟨i0, hi0, hz0, hz1, hz2⟩ := info_parts info_int
  have HH := Lib.hid h
  have h1 := Lib.hid (fun W h hB => sBranches_any B W a p cap hl h hB)
  have e : joinsQ p R RA = (brQ p).map (joinB p R RA) := rfl
  rw [e]
  obtain ⟨hbr, hbl⟩ := brQ_small (p := p)
  have HBR := Lib.hid hbr
  have hj : ∀ b ∈ brQ p, Hid (∀ W, Nums B W a (flat p) → B ≤ W.heap.size → Calls Try.prog 51 #[.slice a p.length cap, .int .i64 b] W (Said (.int .i64 (joinB p R RA b)) W)) := fun b hm => by
    obtain ⟨hp, k, rfl, hk, hb⟩ := br_mem.1 (show inL (brQ p) b = true by unfold inL; rw [List.contains_iff_mem]; exact hm)
    exact fun W h hB => sJoin_any B W a p R hR RA hRA cap k hp hk hb h hB
  have HJ := Lib.hid hj
  generalize brQ p = bs at *
  have hB0 := Lib.hid (below1 w (.cells #[] 3))
  have HO0 := Lib.hid (Own.made w [] rfl (Nat.le_refl _) rfl (by unfold maxLen; simp))
  clear h hR hRA e hbr hj
  go_enter Try.func22, Try.ntmps22
  go_wp2_with fail
  refine (h1.out _ (HH.out.kept (hB0.out.mono hB)) (Nat.le_trans hB hB0.out.size)).mono ?_
  rintro e w1 ⟨v, rfl, o1, b1⟩
  have HB1 := Lib.hid (hB0.out.trans (b1.mono hB0.out.size))
  have HO2 := Lib.hid (HO0.out.below b1)
  have HOB := Lib.hid (o1.lower (show w.heap.size + 1 ≤ (w.alloc (.cells #[] 3)).heap.size by simp))
  obtain ⟨a1, c1, rfl⟩ := o1.form
  have HNE := Lib.hid (fun c (hc : (Value.slice a1 bs.length c1).ownBlock = some c) (e : (Value.slice (some ⟨w.heap.size, 0, none⟩) 0 0).ownBlock = some c) => (show False by
    have h1 := (World.ownsRow.lt HOB.out c hc).1
    have h2 : w.heap.size = c := by simpa [Value.ownBlock] using e
    omega))
  clear o1 b1
  go_wp2_with fail
  go_loopw [3, 5] (fun v i wr => ∃ j : Nat, j ≤ bs.length ∧ i = .int .i64 j ∧ Own w.heap.size wr v ((bs.take j).map (joinB p R RA)) ∧ Own (w.heap.size + 1) wr (.slice a1 bs.length c1) bs ∧ Hid (∀ c, (Value.slice a1 bs.length c1).ownBlock = some c → v.ownBlock ≠ some c) ∧ Below w.heap.size w wr) (fun _ i _ => bs.length - (intOf i).toNat)
  case atStart => exact ⟨0, Nat.zero_le _, rfl, HO2.out, HOB.out, HNE.out, HB1.out⟩
  case round =>
    obtain ⟨j, hj, rfl, hown, hbo, hne, hb⟩ := hrel
    have hsz := hb.size
    have HO := Lib.hid hown
    have HB := Lib.hid hb
    have HBO := Lib.hid hbo
    by_cases hlt : j < bs.length
    · obtain ⟨g, rfl, _, hg, hc⟩ := hbo.cell j hlt
      have HM := Lib.hid (show (bs.take (j + 1)).map (joinB p R RA) = (bs.take j).map (joinB p R RA) ++ [joinB p R RA bs[j]] by rw [List.take_succ_eq_append_getElem hlt, List.map_append]; rfl)
      have h3 := Lib.hid ((HJ.out _ (List.getElem_mem hlt)).out wr (HH.out.kept (HB.out.mono hB)) (Nat.le_trans hB HB.out.size))
      have hle : ((bs.take j).map (joinB p R RA)).length ≤ j := by rw [List.length_map]; exact List.length_take_le _ _
      generalize bs[j] = x at *
      generalize joinB p R RA x = y at *
      generalize (bs.take j).map (joinB p R RA) = ys at *
      clear hown hb hbo
      go_wp2_with fail
      refine h3.out.mono ?_
      rintro e w2 ⟨rfl, b2⟩
      have s2 := b2.size
      have HB2 := Lib.hid (HB.out.trans (b2.mono hsz))
      have HBO2 := Lib.hid (HBO.out.below b2)
      have HO3 := Lib.hid (HO.out.below b2)
      clear b2
      go_wp2_with (at_builtin; refine wpList_append_own_at _ rfl _ _ 26 rfl w.heap.size 3 i0 (.int .i64 0) 1 8 Try.underlying26 hi0 hz0 hz1 hz2 rfl (by decide) _ _ _ rfl (World.ownsRow.alloc HO3.out _) ⟨w2.heap.size, 0, none⟩ 1 1 [.int .i64 y] rfl rfl (cell_one_new _ _ _) (by simp [Value.oneCell']) (by unfold maxLen; omega) (by omega) (by simp; omega) ?_; intro v' w4 hown4 hgrow _ hat)
      have HN := Lib.hid (own_snoc HO3.out HB2.out hown4 hgrow)
      have HBO4 := Lib.hid ((HBO2.out.alloc _).grown hgrow (fun k hk => .inr fun c hc e => hne.out c hc (by rw [e]; exact hk)))
      have HNE4 := Lib.hid (vs_apart HBO2.out hne.out hat (by simp))
      clear hown4 hgrow hat
      go_roundw
      case rel => exact ⟨j + 1, hlt, by go_num, by rw [HM.out]; exact HN.out.1, HBO4.out, HNE4.out, HN.out.2⟩
      case measure => simp [intOf]; omega
    · obtain rfl : j = bs.length := by omega
      rw [List.take_length] at HO
      clear hown hb hbo
      go_wp2_with fail
      go_ret
      exact ⟨_, rfl, HO.out, HB.out⟩

end Go.Proofs.Ytbnebghpakllpaa
