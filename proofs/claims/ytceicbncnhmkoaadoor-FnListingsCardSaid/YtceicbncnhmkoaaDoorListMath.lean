/- Instructions can be parsed from their text: plain mathematics. -/
import Derived.Test.YtceicbncnhmkoaaDoorParProg
import Derived.Test.YtceicbncnhmkoaaDoorFmtProg
import Derived.Test.YtceicbncnhmkoaaDoorFmtInsS
import Derived.Test.YtceicbncnhmkoaaDoorJoin
namespace Go.Proofs.YtceicbncnhmkoaaDoor
open Go.RowKit Go

theorem joinT_snoc (ys : List ByteArray) (f : ByteArray) : joinT (ys ++ [f]) = joined ys ++ f := by
  induction ys using snoc_ind generalizing f with
  | h0 =>
    rw [List.nil_append, join_one']
    apply bytes_ext
    simp [joined]
  | h1 ys z ih =>
    have hne : ∃ x r, ys ++ [z] = x :: r := by
      cases ys with
      | nil => exact ⟨_, _, rfl⟩
      | cons x r => exact ⟨_, _, rfl⟩
    obtain ⟨x, r, hx⟩ := hne
    rw [joined_snoc, ← ih z, hx, List.cons_append, join_snoc]
    rfl

/-- Fields behind bytes that make none. -/
theorem scan_pre (pre : ByteArray) (h0 : scan pre pre.size = ([], pre.size)) (xs : List ByteArray) (h : ∀ f ∈ xs, goodField f) : scan (pre ++ joined xs) (pre ++ joined xs).size = (xs, (pre ++ joined xs).size) := by
  induction xs using snoc_ind with
  | h0 =>
    have e : pre ++ joined [] = pre := by apply bytes_ext; simp [joined]
    rw [e, h0]
  | h1 xs f ih =>
    have ih := ih (fun g hg => h g (List.mem_append_left _ hg))
    obtain ⟨hf0, _, hf⟩ := h f (by simp)
    have e1 : pre ++ joined (xs ++ [f]) = (pre ++ joined xs) ++ f ++ sp := by rw [joined_snoc]; apply bytes_ext; simp
    rw [e1]
    generalize pre ++ joined xs = S at *
    have hsz : (S ++ f ++ sp).size = S.size + f.size + 1 := by rw [app_size, app_size]; rfl
    have h32 : byteAt (S ++ f ++ sp) (S.size + f.size) = 32 := by
      have := byteAt_right (S ++ f) sp 0
      rw [app_size, Nat.add_zero] at this
      rw [this]; rfl
    have hov : scan (S ++ f ++ sp) (S.size + f.size) = (xs, S.size) := by
      rw [scan_over _ _ _ (fun j hj => by
        rw [byteAt_left _ _ _ (by rw [app_size]; omega), byteAt_right]; exact (hf j hj).1)]
      have : S ++ f ++ sp = S ++ (f ++ sp) := by apply bytes_ext; simp
      rw [this, scan_left _ _ _ (Nat.le_refl _), ih]
    rw [hsz, scan_space h32, hov]
    simp only
    rw [if_pos (by omega), extract_mid]

theorem fields_line (ys : List ByteArray) (f : ByteArray) (h : ∀ x ∈ ys ++ [f], goodField x) : allFields (joinT (ys ++ [f])) = ys ++ [f] := by
  rw [joinT_snoc]
  obtain ⟨hf0, _, hf⟩ := h f (by simp)
  have hs := scan_joined ys (fun x hx => h x (List.mem_append_left _ hx))
  generalize joined ys = S at *
  have hsz : (S ++ f).size = S.size + f.size := app_size _ _
  have hov : scan (S ++ f) (S.size + f.size) = (ys, S.size) := by
    rw [scan_over _ _ _ (fun j hj => by rw [byteAt_right]; exact (hf j hj).1), scan_left _ _ _ (Nat.le_refl _), hs]
  unfold allFields
  rw [hsz, hov]
  simp only
  rw [if_pos (by omega)]
  have := extract_mid S f ByteArray.empty
  rw [show S ++ f ++ ByteArray.empty = S ++ f from by apply bytes_ext; simp] at this
  rw [this]

theorem ok_app {s t : ByteArray} (hs : ∀ k, k < s.size → okByte (byteAt s k)) (ht : ∀ k, k < t.size → okByte (byteAt t k)) : ∀ k, k < (s ++ t).size → okByte (byteAt (s ++ t) k) := by
  intro k hk
  rcases Nat.lt_or_ge k s.size with h | h
  · rw [byteAt_left _ _ _ h]; exact hs k h
  · obtain ⟨j, rfl⟩ : ∃ j, k = s.size + j := ⟨k - s.size, by omega⟩
    rw [byteAt_right]
    exact ht j (by rw [app_size] at hk; omega)
theorem ok_good {f : ByteArray} (h : goodField f) : ∀ k, k < f.size → okByte (byteAt f k) := fun k hk => (h.2.2 k hk).2

theorem line_of (ws : List ByteArray) (h0 : ws ≠ []) (h : ∀ x ∈ ws, goodField x) (hl : ws.length ≤ 24) (hs : (joinT ws).size ≤ 600) : fieldsOf (joinT ws) = some ws := by
  obtain ⟨ys, f, rfl⟩ : ∃ ys f, ws = ys ++ [f] := ⟨ws.dropLast, ws.getLast h0, (List.dropLast_concat_getLast h0).symm⟩
  have hall := fields_line ys f h
  have hok : ∀ k, k < (joinT (ys ++ [f])).size → okByte (byteAt (joinT (ys ++ [f])) k) := by
    rw [joinT_snoc]
    exact ok_app (ok_joined ys (fun x hx => h x (List.mem_append_left _ hx))) (ok_good (h f (by simp)))
  have := fields_some (s := joinT (ys ++ [f])) hs hok (by rw [hall]; exact hl)
  rw [hall] at this
  exact this

def two : ByteArray := ⟨#[32, 32]⟩
theorem scan_two : scan two two.size = ([], two.size) := by decide +kernel
theorem joined_line (ws : List ByteArray) (h0 : ws ≠ []) : joined ws = joinT ws ++ sp := by
  obtain ⟨ys, f, rfl⟩ : ∃ ys f, ws = ys ++ [f] := ⟨ws.dropLast, ws.getLast h0, (List.dropLast_concat_getLast h0).symm⟩
  rw [joined_snoc, joinT_snoc]
theorem line_spaced (ws : List ByteArray) (h0 : ws ≠ []) (h : ∀ x ∈ ws, goodField x) (hl : ws.length ≤ 24) (hs : (joinT ws).size ≤ 500) : fieldsOf (two ++ joinT ws ++ ⟨#[32]⟩) = some ws := by
  have e : two ++ joinT ws ++ ⟨#[32]⟩ = two ++ joined ws := by rw [joined_line ws h0]; apply bytes_ext; simp [sp]
  rw [e]
  have hsc := scan_pre two scan_two ws h
  have hall : allFields (two ++ joined ws) = ws := by unfold allFields; rw [hsc]; simp
  have hsz : (two ++ joined ws).size ≤ 600 := by
    rw [joined_line ws h0, app_size, app_size]
    have : two.size = 2 := rfl
    have : sp.size = 1 := rfl
    omega
  have hok : ∀ k, k < (two ++ joined ws).size → okByte (byteAt (two ++ joined ws) k) := ok_app (by
    have : ∀ k : Fin 2, okByte (byteAt two k.val) := by unfold okByte; decide +kernel
    intro k hk
    exact this ⟨k, hk⟩) (ok_joined ws h)
  have := fields_some (s := two ++ joined ws) hsz hok (by rw [hall]; exact hl)
  rw [hall] at this
  exact this

/-! ### The words of an instruction -/
def goodB (f : ByteArray) : Bool := decide (0 < f.size) && decide (f.size ≤ 600) && f.data.toList.all fun b => decide (33 ≤ b.toNat) && decide (b.toNat ≤ 126)
theorem good_of {f : ByteArray} (h : goodB f = true) : goodField f := by
  unfold goodB at h
  simp only [Bool.and_eq_true, decide_eq_true_eq] at h
  obtain ⟨⟨h1, h2⟩, h3⟩ := h
  rw [List.all_eq_true] at h3
  refine ⟨h1, h2, fun j hj => ?_⟩
  have hj' : j < f.data.toList.length := by rw [len_data]; exact hj
  have := h3 f.data.toList[j] (List.getElem_mem hj')
  simp only [Bool.and_eq_true, decide_eq_true_eq] at this
  have e : byteAt f j = (f.data.toList[j]).toNat := by unfold byteAt; rw [List.getD_eq_getElem?_getD, List.getElem?_eq_getElem hj']; rfl
  rw [e]
  unfold okByte
  omega
theorem op_good : ∀ k : Fin 17, goodB (opN k.val) = true := by decide +kernel
theorem figs_good {n : Int} (h : smallF n) : goodField (figs n) := by
  obtain ⟨m, rfl⟩ := Int.eq_ofNat_of_zero_le h.1
  have hsz := figs_size h
  have hd : figs m = ⟨(Lib.decDigits m).toArray⟩ := by unfold figs; rw [Lib.itoa_nonneg]
  apply good_of
  unfold goodB
  simp only [Bool.and_eq_true, decide_eq_true_eq]
  refine ⟨⟨?_, by omega⟩, ?_⟩
  · obtain ⟨c, r, hc⟩ := decDigits_cons m
    rw [hd, hc]
    show 0 < (List.toArray (c :: r)).size
    simp
  · rw [hd, List.all_eq_true]
    intro b hb
    obtain ⟨j, hj, rfl⟩ := List.getElem_of_mem hb
    obtain ⟨d, hv⟩ := Lib.digit_of_decFrom _ _ _ (decFrom_digits m) j _ (List.getElem?_eq_getElem (by simpa using hj))
    have h1 := Lib.digitVal_eq hv
    simp only [Bool.and_eq_true, decide_eq_true_eq]
    omega
theorem puOf_figs {n : Int} (h : smallF n) : ∃ m : Nat, n = m ∧ puOf (figs n).data.toList = some m := by
  obtain ⟨m, rfl⟩ := Int.eq_ofNat_of_zero_le h.1
  refine ⟨m, rfl, ?_⟩
  have : (figs (m : Int)).data.toList = Lib.itoa m := by unfold figs; simp
  rw [this]
  exact puOf_itoa m (by have := h.2; omega)

/-- The fields that an operation does not mention are 0. -/
theorem unused {k : Nat} (hk : k < 17) {a b c : Int} (h : insOk k a b c 32 = true) : (65 ∉ (ltrs k).data.toList → a = 0) ∧ (66 ∉ (ltrs k).data.toList → b = 0) ∧ (67 ∉ (ltrs k).data.toList → c = 0) := by
  unfold insOk at h
  rw [if_pos ⟨rfl, inO_iff.2 (by omega)⟩] at h
  simp only [Bool.and_eq_true] at h
  obtain ⟨⟨h1, h2⟩, h3⟩ := h
  unfold chA at h1
  unfold chB at h2
  unfold chC at h3
  rcases (by omega : k = 0 ∨ k = 1 ∨ k = 2 ∨ k = 3 ∨ k = 4 ∨ k = 5 ∨ k = 6 ∨ k = 7 ∨ k = 8 ∨ k = 9 ∨ k = 10 ∨ k = 11 ∨ k = 12 ∨ k = 13 ∨ k = 14 ∨ k = 15 ∨ k = 16) with rfl | rfl | rfl | rfl | rfl | rfl | rfl | rfl | rfl | rfl | rfl | rfl | rfl | rfl | rfl | rfl | rfl
  all_goals simp [ltrs, zB] at h1 h2 h3 ⊢
  all_goals simp [*]

theorem fill_words {a b c : Int} (ha : smallF a) (hb : smallF b) (hc : smallF c) (k : Nat) (hk : k < 17) (h0 : (65 ∉ (ltrs k).data.toList → a = 0) ∧ (66 ∉ (ltrs k).data.toList → b = 0) ∧ (67 ∉ (ltrs k).data.toList → c = 0)) :
    fillL (ltrs k).data.toList ((ltrs k).data.toList.map fun l => figs (fld l a b c)) (0, 0, 0) = some (a, b, c) := by
  obtain ⟨ma, ea, pa⟩ := puOf_figs ha
  obtain ⟨mb, eb, pb⟩ := puOf_figs hb
  obtain ⟨mc, ec, pc⟩ := puOf_figs hc
  have e65 : fld 65 a b c = a := rfl
  have e66 : fld 66 a b c = b := rfl
  have e67 : fld 67 a b c = c := rfl
  obtain ⟨h1, h2, h3⟩ := h0
  rcases (by omega : k = 0 ∨ k = 1 ∨ k = 2 ∨ k = 3 ∨ k = 4 ∨ k = 5 ∨ k = 6 ∨ k = 7 ∨ k = 8 ∨ k = 9 ∨ k = 10 ∨ k = 11 ∨ k = 12 ∨ k = 13 ∨ k = 14 ∨ k = 15 ∨ k = 16) with rfl | rfl | rfl | rfl | rfl | rfl | rfl | rfl | rfl | rfl | rfl | rfl | rfl | rfl | rfl | rfl | rfl
  all_goals simp [ltrs] at h1 h2 h3
  all_goals simp [ltrs, fillL, e65, e66, e67, pa, pb, pc, putL]
  all_goals first | done | omega | exact ⟨by omega, by omega⟩ | exact ⟨by omega, by omega, by omega⟩

theorem parseW_words {k : Nat} (hk : k < 17) {a b c : Int} (h : insOk k a b c 32 = true) : parseW (wordsOf (opN k) (ltrs k).data.toList a b c) = some ⟨k, a, b, c⟩ := by
  obtain ⟨_, ha, hb, hc⟩ := ok_small h
  unfold wordsOf
  rw [parseW_op (formIx_op hk), fill_words ha hb hc k hk (unused hk h)]
  simp only [okIns]
  rw [if_pos h]

theorem words_good {k : Nat} (hk : k < 17) {a b c : Int} (ha : smallF a) (hb : smallF b) (hc : smallF c) : ∀ x ∈ wordsOf (opN k) (ltrs k).data.toList a b c, goodField x := by
  intro x hx
  unfold wordsOf at hx
  rcases List.mem_cons.1 hx with rfl | hx
  · exact good_of (op_good ⟨k, hk⟩)
  · obtain ⟨l, _, rfl⟩ := List.mem_map.1 hx
    exact figs_good (fld_small ha hb hc)

/-- What an instruction's text is, and what it is parsed to. -/
theorem parse_ins {i : I4} (h : insOk i.o i.a i.b i.c 32 = true) : parseL (insTx i) = some i ∧ parseL (two ++ insTx i ++ ⟨#[32]⟩) = some i ∧ (insTx i).size ≤ 124 := by
  obtain ⟨ho, ha, hb, hc⟩ := ok_small h
  obtain ⟨o, a, b, c⟩ := i
  simp only at h ho ha hb hc
  have ho' := inO_iff.1 ho
  obtain ⟨k, rfl⟩ := Int.eq_ofNat_of_zero_le ho'.1
  have hk : k < 17 := by omega
  have e : insTx ⟨k, a, b, c⟩ = joinT (wordsOf (opN k) (ltrs k).data.toList a b c) := by
    unfold insTx insText
    simp only
    rw [if_pos h, Int.toNat_natCast]
    rfl
  have hz := line_size hk ha hb hc
  have hz' : (joinT (wordsOf (opN k) (ltrs k).data.toList a b c)).size ≤ 124 := hz
  have hg := words_good hk ha hb hc
  have hl := (words_small hk ha hb hc).2
  have hne : wordsOf (opN k) (ltrs k).data.toList a b c ≠ [] := by unfold wordsOf; simp
  have hp := parseW_words hk h
  rw [e]
  refine ⟨?_, ?_, hz'⟩
  · unfold parseL
    rw [line_of _ hne hg (by omega) (by omega)]
    exact hp
  · unfold parseL
    rw [line_spaced _ hne hg (by omega) (by omega)]
    exact hp

theorem ok_32 {i : I4} {s : Nat} (h : okI s i = true) (hs : s ≤ 32) : insOk i.o i.a i.b i.c 32 = true := by
  have h1 := h
  unfold okI at h1
  have : ∀ (t : Nat), s ≤ t → t ≤ 32 → insOk i.o i.a i.b i.c t = true := by
    intro t h2 h3
    unfold insOk at *
    split at h1
    · rename_i h0
      rw [if_pos ⟨inO_iff.2 (by omega), h0.2⟩]
      simp only [Bool.and_eq_true] at h1 ⊢
      refine ⟨⟨h1.1.1, ?_⟩, h1.2⟩
      have hb := h1.1.2
      unfold chB at *
      split at hb
      · rename_i q1; rw [if_pos q1]; exact hb
      · rename_i q1
        rw [if_neg q1]
        split at hb
        · rename_i q2
          rw [if_pos q2]
          have := inO_iff.1 hb
          exact inO_iff.2 (by omega)
        · rename_i q2
          rw [if_neg q2]
          exact hb
    · cases h1
  exact this 32 hs (Nat.le_refl _)

/-- The program with the lines of a valid program. -/
theorem prog_again {p : List I4} (h : progOk p = true) : progOf (fmtP p) = some p := by
  have h32 := progOk_len h
  have hall : ∀ i ∈ p, parseL (insTx i) = some i := fun i hi => by
    unfold progOk at h
    rw [List.all_eq_true] at h
    exact (parse_ins (ok_32 (h i hi) h32)).1
  have hp : parseAll (p.map insTx) = some p := by
    clear h h32
    induction p with
    | nil => rfl
    | cons i p ih =>
      simp only [List.map_cons, parseAll]
      rw [hall i (by simp), ih (fun j hj => hall j (List.mem_cons_of_mem _ hj))]
      rfl
  unfold progOf fmtP
  rw [if_pos h, hp]
  simp only
  rw [if_pos h]

end Go.Proofs.YtceicbncnhmkoaaDoor
