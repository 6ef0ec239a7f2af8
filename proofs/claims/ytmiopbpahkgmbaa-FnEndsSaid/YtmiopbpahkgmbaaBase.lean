/- Plain notions that the draws' contracts share: a row of numbers that came in, the cursor of a draw, what a draw leaves. No program is named here. -/
import Derived.WalkKit
import Derived.ProofKit
import Derived.OpenShut
import Derived.Below
import Derived.OneCell
import Derived.Deep.QuietTactic
import Derived.BigQuiet
import Derived.Lib.Hide
namespace Go.Proofs.Ytmiopbpahkgmbaa
open Go.RowKit

def IsRow (k : IntKind) (w : World) (a : Option Addr) (len cap : Nat) (zs : List Int) : Prop :=
  (a = none ∧ len = 0 ∧ cap = 0 ∧ zs = []) ∨
  ∃ x, a = some x ∧ len ≤ cap ∧ cap ≤ maxLen ∧ zs.length = cap ∧ (∀ i, i < zs.length → w.cell? (x.add i) = some (.int k (zs.getD i 0))) ∧ ∀ n ∈ zs, (Lit.int k n).wf = true

/-- The bytes that a cursor reads: their row lies below 'base'. -/
def Bytes (base : Nat) (w : World) (a : Option Addr) (len : Nat) : Prop :=
  ∀ j : Nat, j < len → ∃ (b off : Nat) (x : Int), a = some ⟨b, off, none⟩ ∧ b < base ∧ w.cell? ⟨b, off + j, none⟩ = some (.int .u8 x) ∧ 0 ≤ x ∧ x ≤ 255

theorem IsRow.bytes {w : World} {a : Option Addr} {len cap : Nat} {zs : List Int} (h : IsRow .u8 w a len cap zs) : Bytes w.heap.size w a len ∧ len ≤ maxLen := by
  rcases h with ⟨rfl, rfl, rfl, rfl⟩ | ⟨x, rfl, hl, hm, hz, hc, hw⟩
  · exact ⟨fun j hj => by omega, by unfold maxLen; omega⟩
  · refine ⟨fun j hj => ?_, by omega⟩
    obtain ⟨b, off, rfl, hc'⟩ := ints_at hc (by omega)
    have hj' := hc' j (by omega)
    have hb := bounds_u8 (hw (zs.getD j 0) (by
      rw [List.getD_eq_getElem?_getD, List.getElem?_eq_getElem (by omega)]
      exact List.getElem_mem _))
    exact ⟨b, off, _, rfl, World.block_lt_of_cell? w _ hj', hj', hb.1, hb.2⟩

/-- The cursor of a draw in block B, from 'base' on. -/
def Cur (base : Nat) (w : World) (B : Nat) : Prop :=
  base ≤ B ∧ ∃ (a : Option Addr) (len cap : Nat) (i h : Int), 0 ≤ i ∧ i ≤ len ∧ len ≤ maxLen ∧ Bytes base w a len ∧
    w.heap[B]? = some (.cells #[.slice a len cap, .int .i64 i, .int .i64 h] 87 (0, 0))

theorem Cur.lt {base B : Nat} {w : World} (h : Cur base w B) : B < w.heap.size := by
  obtain ⟨_, a, len, cap, i, h', _, _, _, _, hb⟩ := h
  exact lt_of_block hb

theorem Bytes.kept {base : Nat} {w w' : World} {a : Option Addr} {len : Nat} (h : Bytes base w a len) (hb : ∀ k, k < base → w'.heap[k]? = w.heap[k]?) : Bytes base w' a len := by
  intro j hj
  obtain ⟨b, off, x, ha, hlt, hc, h0, h1⟩ := h j hj
  exact ⟨b, off, x, ha, hlt, by rw [World.cell?_of_block (w := w) (hb b hlt)]; exact hc, h0, h1⟩

theorem Cur.kept {base B : Nat} {w w' : World} {row : Option Nat} (h : Cur base w B) (hg : w.grownBy w' row) (hr : ∀ k, row = some k → base ≤ k ∧ k ≠ B) : Cur base w' B := by
  have hlt := h.lt
  obtain ⟨hB, a, len, cap, i, h', h1, h2, h3, h4, hb⟩ := h
  refine ⟨hB, a, len, cap, i, h', h1, h2, h3, h4.kept (fun k hk => hg.block k (by omega) (fun e => by have := hr k e.symm; omega)), ?_⟩
  rw [hg.block B hlt (fun e => by have := hr B e.symm; omega)]
  exact hb

theorem grownBy_refl (w : World) (row : Option Nat) : w.grownBy w row := ⟨rfl, rfl, rfl, Nat.le_refl _, fun _ _ _ => rfl⟩
theorem grownBy_drew (w : World) (row : Option Nat) : w.grownBy w.drew row := ⟨rfl, rfl, rfl, Nat.le_refl _, fun _ _ _ => rfl⟩
theorem grownBy_drewN (w : World) (n : Nat) (row : Option Nat) : w.grownBy (w.drewN n) row := ⟨rfl, rfl, rfl, Nat.le_refl _, fun _ _ _ => rfl⟩
theorem grownBy_trans {a b c : World} {row : Option Nat} (h : a.grownBy b row) (k : b.grownBy c row) : a.grownBy c row :=
  ⟨k.os.trans h.os, k.tape.trans h.tape, k.output.trans h.output, Nat.le_trans h.size k.size, fun i hi hn => (k.block i (Nat.lt_of_lt_of_le hi h.size) hn).trans (h.block i hi hn)⟩
theorem grownBy_setCell (w : World) (p : Addr) (u : Value) : w.grownBy (w.setCell p u) (some p.block) :=
  ⟨rfl, rfl, rfl, by simp [World.setCell], fun k _ hn => Below.heap_setCell _ _ _ _ (fun e => hn (by rw [e]))⟩
theorem grownBy_below {base : Nat} {w w' : World} {row : Option Nat} (h : w.grownBy w' row) (hb : base ≤ w.heap.size) (hr : ∀ k, row = some k → base ≤ k) : Below base w w' :=
  (Below.refl base w).grown h hb hr

theorem Cur.drew {base B : Nat} {w : World} (h : Cur base w B) : Cur base w.drew B := h.kept (grownBy_drew w none) (fun _ e => by cases e)
theorem Cur.drewN {base B : Nat} {w : World} (h : Cur base w B) (n : Nat) : Cur base (w.drewN n) B := h.kept (grownBy_drewN w n none) (fun _ e => by cases e)
theorem Cur.alloc {base B : Nat} {w : World} (h : Cur base w B) (o : Obj) : Cur base (w.alloc o) B := h.kept (World.grownBy_alloc w o none) (fun _ e => by cases e)

theorem three_set1 {w : World} {b : Nat} {x y z u : Value} {t : TypeId} (h : w.heap[b]? = some (.cells #[x, y, z] t (0, 0))) : (w.setCell ⟨b, 1, none⟩ u).heap[b]? = some (.cells #[x, u, z] t (0, 0)) := by
  have hlt := lt_of_block h
  have h' : w.heap[b] = .cells #[x, y, z] t (0, 0) := by simpa [Array.getElem?_eq_getElem hlt] using h
  show (w.heap.modify b _)[b]? = _
  rw [Array.getElem?_eq_getElem (by simpa using hlt), Array.getElem_modify_self, h']
  rfl
theorem three_set2 {w : World} {b : Nat} {x y z u : Value} {t : TypeId} (h : w.heap[b]? = some (.cells #[x, y, z] t (0, 0))) : (w.setCell ⟨b, 2, none⟩ u).heap[b]? = some (.cells #[x, y, u] t (0, 0)) := by
  have hlt := lt_of_block h
  have h' : w.heap[b] = .cells #[x, y, z] t (0, 0) := by simpa [Array.getElem?_eq_getElem hlt] using h
  show (w.heap.modify b _)[b]? = _
  rw [Array.getElem?_eq_getElem (by simpa using hlt), Array.getElem_modify_self, h']
  rfl

/-- A draw of a number: it fits P, the cursor stands on, and nothing else has turned. -/
def Drew (base B : Nat) (P : Int → Prop) (w : World) (e : Ending) (w' : World) : Prop :=
  ∃ x : Int, P x ∧ e = .returned (.int .i64 x) ∧ Cur base w' B ∧ w.grownBy w' (some B)

theorem and255 (y : Int) : 0 ≤ bits .and .i64 y 255 ∧ bits .and .i64 y 255 ≤ 255 := by
  have e : bits .and .i64 y 255 = (((BitVec.ofInt 64 y).toNat &&& 255 : Nat) : Int) := by
    have h1 : ((BitVec.ofInt 64 y).toNat &&& 255 : Nat) ≤ 255 := Nat.and_le_right
    have h2 : ((BitVec.ofInt 64 y) &&& (BitVec.ofInt 64 255)).toNat = (BitVec.ofInt 64 y).toNat &&& 255 := by
      rw [BitVec.toNat_and]; rfl
    show IntKind.i64.wrap (((BitVec.ofInt 64 y) &&& (BitVec.ofInt 64 255)).toNat : Int) = _
    rw [h2]
    generalize (BitVec.ofInt 64 y).toNat &&& 255 = n at *
    exact IntWalk.i64_in _ (by omega)
  have h1 : ((BitVec.ofInt 64 y).toNat &&& 255 : Nat) ≤ 255 := Nat.and_le_right
  omega
theorem ret_int {k : IntKind} {a b : Int} (h : a = b) : Ending.returned (.int k a) = .returned (.int k b) := by rw [h]

theorem snoc_ind {α : Type} {P : List α → Prop} (h0 : P []) (h1 : ∀ xs x, P xs → P (xs ++ [x])) (xs : List α) : P xs := by
  have key : ∀ ys : List α, P ys.reverse := by
    intro ys
    induction ys with
    | nil => exact h0
    | cons a ys ih => rw [List.reverse_cons]; exact h1 _ _ ih
  have := key xs.reverse
  rwa [List.reverse_reverse] at this

end Go.Proofs.Ytmiopbpahkgmbaa
