/- The contracts of the programs' functions that answer a number or a bool: the program's and the model's. -/
import Derived.Test.YtmiopbpahkgmbaaProgs
import Derived.Test.YtmiopbpahkgmbaaInsOkP
import Derived.Test.YtmiopbpahkgmbaaInsOkS
namespace Go.Proofs.Ytmiopbpahkgmbaa
open Go.RowKit Go

theorem allT_take {α : Type} {f : α → Bool} {xs : List α} {k : Nat} (hk : k < xs.length) (h : ∀ x ∈ xs.take k, f x = true) (hx : f xs[k] = true) : ∀ x ∈ xs.take (k + 1), f x = true := by
  intro x hm
  rw [List.take_succ_eq_append_getElem hk, List.mem_append, List.mem_singleton] at hm
  rcases hm with hm | rfl
  · exact h x hm
  · exact hx
theorem allT_no {α : Type} {f : α → Bool} {xs : List α} {k : Nat} (hk : k < xs.length) (hx : f xs[k] = false) : xs.all f = false := by
  rw [List.all_eq_false]
  exact ⟨_, List.getElem_mem hk, by rw [hx]; simp⟩
theorem allT_yes {α : Type} {f : α → Bool} {xs : List α} (h : ∀ x ∈ xs.take xs.length, f x = true) : xs.all f = true := by
  rw [List.all_eq_true]
  rwa [List.take_length] at h

/-- Is an instruction valid in a program of s? -/
def okI (s : Nat) (i : I4) : Bool := insOk i.o i.a i.b i.c s
/-- Are there at most as many instructions as a program may have, all valid for their number? -/
def progOk (p : List I4) : Bool := p.all (okI p.length)
def locI (i : I4) : Bool := inO i.o 0 12
def quietOk (p : List I4) : Bool := p.all locI && progOk p

theorem progOk_len {p : List I4} (h : progOk p = true) : p.length ≤ 32 := by
  cases p with
  | nil => simp
  | cons i p =>
    unfold progOk at h
    rw [List.all_eq_true] at h
    have h1 := h i (by simp)
    unfold okI insOk at h1
    split at h1
    · rename_i h2
      have := (inO_iff.1 h2.1).2
      omega
    · exact absurd h1 (by simp)

set_option maxRecDepth 100000 in
set_option maxHeartbeats 400000 in
theorem pProgramOk_any (B : Nat) (w : World) (a : Option Addr) (p : List I4) (cap : Nat) (hl : p.length ≤ 10000000) (h : Nums B w a (flat p)) (hB : B ≤ w.heap.size) :
    Calls Try.prog 66 #[.slice a p.length cap] w (Said (.bool (progOk p)) w) := by
  have HH := Lib.hid h
  clear h
  go_enter Try.func66, Try.ntmps66
  go_wp2_with fail
  go_loopw [7] (fun i wr => ∃ k : Nat, k ≤ p.length ∧ i = .int .i64 k ∧ (∀ x ∈ p.take k, okI p.length x = true) ∧ Below w.heap.size w wr) (fun i _ => p.length - (intOf i).toNat)
  case atStart => exact ⟨0, Nat.zero_le _, rfl, by simp, Below.refl _ _⟩
  case round =>
    obtain ⟨k, hk, rfl, hr, hb⟩ := hrel
    have HR := Lib.hid hr
    clear hr
    by_cases hlt : k < p.length
    · obtain ⟨g, off, rfl, hg, c0, c1, c2, c3⟩ := (HH.out.kept (hb.mono hB)).at4 k hlt
      have Hno := Lib.hid (allT_no (f := okI p.length) hlt)
      have Hyes := Lib.hid (allT_take (f := okI p.length) hlt HR.out)
      have hs := hb.size
      generalize p[k] = x at *
      have h1 := fun W => pInsOk_any x.o x.a x.b x.c p.length W
      cases hx : okI p.length x with
      | true =>
        have HX := Lib.hid hx
        rw [show insOk x.o x.a x.b x.c p.length = true from hx] at h1
        replace h1 := Lib.hid h1
        clear hx
        go_wp2_with fail
        refine (h1.out _).mono ?_
        rintro e w' ⟨rfl, b1⟩
        have B1 := Lib.hid ((hb.alloc hs _).trans (b1.mono (by simp; omega)))
        clear b1
        go_wp2_with fail
        go_roundw
        case rel => exact ⟨k + 1, hlt, by go_num, Hyes.out HX.out, B1.out⟩
        case measure => simp [intOf]; omega
      | false =>
        have HX := Lib.hid hx
        rw [show insOk x.o x.a x.b x.c p.length = false from hx] at h1
        replace h1 := Lib.hid h1
        clear hx
        go_wp2_with fail
        refine (h1.out _).mono ?_
        rintro e w' ⟨rfl, b1⟩
        have B1 := Lib.hid ((hb.alloc hs _).trans (b1.mono (by simp; omega)))
        clear b1
        go_wp2_with fail
        go_ret
        exact ⟨ret_bool (Hno.out HX.out).symm, B1.out⟩
    · obtain rfl : k = p.length := by omega
      go_wp2_with fail
      go_ret
      exact ⟨ret_bool (allT_yes HR.out).symm, hb⟩

set_option maxRecDepth 100000 in
set_option maxHeartbeats 400000 in
theorem sProgramOk_any (B : Nat) (w : World) (a : Option Addr) (p : List I4) (cap : Nat) (hl : p.length ≤ 10000000) (h : Nums B w a (flat p)) (hB : B ≤ w.heap.size) :
    Calls Try.prog 93 #[.slice a p.length cap] w (Said (.bool (progOk p)) w) := by
  have HH := Lib.hid h
  clear h
  go_enter Try.func93, Try.ntmps93
  go_wp2_with fail
  go_loopw [3] (fun i wr => ∃ k : Nat, k ≤ p.length ∧ i = .int .i64 k ∧ (∀ x ∈ p.take k, okI p.length x = true) ∧ Below w.heap.size w wr) (fun i _ => p.length - (intOf i).toNat)
  case atStart => exact ⟨0, Nat.zero_le _, rfl, by simp, Below.refl _ _⟩
  case round =>
    obtain ⟨k, hk, rfl, hr, hb⟩ := hrel
    have HR := Lib.hid hr
    clear hr
    by_cases hlt : k < p.length
    · obtain ⟨g, off, rfl, hg, c0, c1, c2, c3⟩ := (HH.out.kept (hb.mono hB)).at4 k hlt
      have Hno := Lib.hid (allT_no (f := okI p.length) hlt)
      have Hyes := Lib.hid (allT_take (f := okI p.length) hlt HR.out)
      have hs := hb.size
      generalize p[k] = x at *
      have h1 := fun W => sInsOk_any x.o x.a x.b x.c p.length W
      cases hx : okI p.length x with
      | true =>
        have HX := Lib.hid hx
        rw [show insOk x.o x.a x.b x.c p.length = true from hx] at h1
        replace h1 := Lib.hid h1
        clear hx
        go_wp2_with fail
        refine (h1.out _).mono ?_
        rintro e w' ⟨rfl, b1⟩
        have B1 := Lib.hid (hb.trans (b1.mono hs))
        clear b1
        go_wp2_with fail
        go_roundw
        case rel => exact ⟨k + 1, hlt, by go_num, Hyes.out HX.out, B1.out⟩
        case measure => simp [intOf]; omega
      | false =>
        have HX := Lib.hid hx
        rw [show insOk x.o x.a x.b x.c p.length = false from hx] at h1
        replace h1 := Lib.hid h1
        clear hx
        go_wp2_with fail
        refine (h1.out _).mono ?_
        rintro e w' ⟨rfl, b1⟩
        have B1 := Lib.hid (hb.trans (b1.mono hs))
        clear b1
        go_wp2_with fail
        go_ret
        exact ⟨ret_bool (Hno.out HX.out).symm, B1.out⟩
    · obtain rfl : k = p.length := by omega
      have hy : progOk p = true := allT_yes HR.out
      have h32 : (p.length : Int) ≤ 32 := by have := progOk_len hy; omega
      have HY := Lib.hid hy
      clear hy
      go_wp2_with fail
      go_ret
      exact ⟨ret_bool HY.out.symm, hb⟩

theorem quiet_no {p : List I4} (h : p.all locI = false) : quietOk p = false := by unfold quietOk; rw [h]; rfl
theorem quiet_yes {p : List I4} (h : p.all locI = true) : quietOk p = progOk p := by unfold quietOk; rw [h]; rfl

set_option maxRecDepth 100000 in
set_option maxHeartbeats 400000 in
theorem pIsQuiet_any (B : Nat) (w : World) (a : Option Addr) (p : List I4) (cap : Nat) (hl : p.length ≤ 10000000) (h : Nums B w a (flat p)) (hB : B ≤ w.heap.size) :
    Calls Try.prog 64 #[.slice a p.length cap] w (Said (.bool (quietOk p)) w) := by
  have HH := Lib.hid h
  clear h
  go_enter Try.func64, Try.ntmps64
  go_wp2_with fail
  go_loopw [7] (fun i wr => ∃ k : Nat, k ≤ p.length ∧ i = .int .i64 k ∧ (∀ x ∈ p.take k, locI x = true) ∧ Below w.heap.size w wr) (fun i _ => p.length - (intOf i).toNat)
  case atStart => exact ⟨0, Nat.zero_le _, rfl, by simp, Below.refl _ _⟩
  case round =>
    obtain ⟨k, hk, rfl, hr, hb⟩ := hrel
    have HR := Lib.hid hr
    have hs := hb.size
    clear hr
    by_cases hlt : k < p.length
    · obtain ⟨g, off, rfl, hg, c0, c1, c2, c3⟩ := (HH.out.kept (hb.mono hB)).at4 k hlt
      have Hno := Lib.hid (allT_no (f := locI) hlt)
      have Hyes := Lib.hid (allT_take (f := locI) hlt HR.out)
      generalize p[k] = x at *
      have h1 := fun W => pIsLocal_any x.o x.a x.b x.c W
      cases hx : locI x with
      | true =>
        have HX := Lib.hid hx
        rw [show inO x.o 0 12 = true from hx] at h1
        replace h1 := Lib.hid h1
        clear hx
        go_wp2_with fail
        refine (h1.out _).mono ?_
        rintro e w' ⟨rfl, b1⟩
        have B1 := Lib.hid ((hb.alloc hs _).trans (b1.mono (by simp; omega)))
        clear b1
        go_wp2_with fail
        go_roundw
        case rel => exact ⟨k + 1, hlt, by go_num, Hyes.out HX.out, B1.out⟩
        case measure => simp [intOf]; omega
      | false =>
        have HX := Lib.hid hx
        rw [show inO x.o 0 12 = false from hx] at h1
        replace h1 := Lib.hid h1
        clear hx
        go_wp2_with fail
        refine (h1.out _).mono ?_
        rintro e w' ⟨rfl, b1⟩
        have B1 := Lib.hid ((hb.alloc hs _).trans (b1.mono (by simp; omega)))
        clear b1
        go_wp2_with fail
        go_ret
        exact ⟨ret_bool (quiet_no (Hno.out HX.out)).symm, B1.out⟩
    · obtain rfl : k = p.length := by omega
      have HY := Lib.hid (quiet_yes (allT_yes HR.out))
      have h1 := pProgramOk_any B wr a p cap hl (HH.out.kept (hb.mono hB)) (by omega)
      rw [← HY.out] at h1
      replace h1 := Lib.hid h1
      go_wp2_with fail
      refine h1.out.mono ?_
      rintro e w' ⟨rfl, b1⟩
      have B1 := Lib.hid (hb.trans (b1.mono hs))
      clear b1
      go_wp2_with fail
      go_ret
      exact ⟨rfl, B1.out⟩

set_option maxRecDepth 100000 in
set_option maxHeartbeats 400000 in
theorem sIsQuiet_any (B : Nat) (w : World) (a : Option Addr) (p : List I4) (cap : Nat) (hl : p.length ≤ 10000000) (h : Nums B w a (flat p)) (hB : B ≤ w.heap.size) :
    Calls Try.prog 77 #[.slice a p.length cap] w (Said (.bool (quietOk p)) w) := by
  have HH := Lib.hid h
  clear h
  go_enter Try.func77, Try.ntmps77
  go_wp2_with fail
  go_loopw [3] (fun i wr => ∃ k : Nat, k ≤ p.length ∧ i = .int .i64 k ∧ (∀ x ∈ p.take k, locI x = true) ∧ Below w.heap.size w wr) (fun i _ => p.length - (intOf i).toNat)
  case atStart => exact ⟨0, Nat.zero_le _, rfl, by simp, Below.refl _ _⟩
  case round =>
    obtain ⟨k, hk, rfl, hr, hb⟩ := hrel
    have HR := Lib.hid hr
    have hs := hb.size
    clear hr
    by_cases hlt : k < p.length
    · obtain ⟨g, off, rfl, hg, c0, c1, c2, c3⟩ := (HH.out.kept (hb.mono hB)).at4 k hlt
      have Hno := Lib.hid (allT_no (f := locI) hlt)
      have Hyes := Lib.hid (allT_take (f := locI) hlt HR.out)
      generalize p[k] = x at *
      have h1 := fun W => sIsLocal_any x.o x.a x.b x.c W
      cases hx : locI x with
      | true =>
        have HX := Lib.hid hx
        rw [show inO x.o 0 12 = true from hx] at h1
        replace h1 := Lib.hid h1
        clear hx
        go_wp2_with fail
        refine (h1.out _).mono ?_
        rintro e w' ⟨rfl, b1⟩
        have B1 := Lib.hid (hb.trans (b1.mono hs))
        clear b1
        go_wp2_with fail
        go_roundw
        case rel => exact ⟨k + 1, hlt, by go_num, Hyes.out HX.out, B1.out⟩
        case measure => simp [intOf]; omega
      | false =>
        have HX := Lib.hid hx
        rw [show inO x.o 0 12 = false from hx] at h1
        replace h1 := Lib.hid h1
        clear hx
        go_wp2_with fail
        refine (h1.out _).mono ?_
        rintro e w' ⟨rfl, b1⟩
        have B1 := Lib.hid (hb.trans (b1.mono hs))
        clear b1
        go_wp2_with fail
        go_ret
        exact ⟨ret_bool (quiet_no (Hno.out HX.out)).symm, B1.out⟩
    · obtain rfl : k = p.length := by omega
      have HY := Lib.hid (quiet_yes (allT_yes HR.out))
      have h1 := sProgramOk_any B wr a p cap hl (HH.out.kept (hb.mono hB)) (by omega)
      rw [← HY.out] at h1
      replace h1 := Lib.hid h1
      go_wp2_with fail
      refine h1.out.mono ?_
      rintro e w' ⟨rfl, b1⟩
      have B1 := Lib.hid (hb.trans (b1.mono hs))
      clear b1
      go_wp2_with fail
      go_ret
      exact ⟨rfl, B1.out⟩

/-- How many instructions have this operation? -/
def cntO (op : Int) (p : List I4) : Nat := p.countP fun i => i.o == op
theorem cntO_le (op : Int) (p : List I4) : cntO op p ≤ p.length := List.countP_le_length
theorem cntO_yes {op : Int} {p : List I4} {k : Nat} (h : k < p.length) (hx : p[k].o = op) : cntO op (p.take (k + 1)) = cntO op (p.take k) + 1 := by
  unfold cntO
  rw [List.take_succ_eq_append_getElem h, List.countP_append, List.countP_singleton, if_pos (by simpa using hx)]
theorem cntO_no {op : Int} {p : List I4} {k : Nat} (h : k < p.length) (hx : ¬ p[k].o = op) : cntO op (p.take (k + 1)) = cntO op (p.take k) := by
  unfold cntO
  rw [List.take_succ_eq_append_getElem h, List.countP_append, List.countP_singleton, if_neg (by simpa using hx), Nat.add_zero]
theorem cntO_take (op : Int) (p : List I4) (k : Nat) : cntO op (p.take k) ≤ k := by
  refine Nat.le_trans (cntO_le _ _) ?_
  rw [List.length_take]
  omega

end Go.Proofs.Ytmiopbpahkgmbaa
