/- What is reached, marked: the program's. -/
import Derived.Test.YtimkcgbhkbchfaaBools
namespace Go.Proofs.Ytimkcgbhkbchfaa
open Go.RowKit Go

theorem one_src (w : World) (x : Int) (n : Nat) (hn : n = w.heap.size) : ∀ j u, [Value.int .i64 x][j]? = some u → (w.alloc (.cells #[.int .i64 x] 3)).cell? ((⟨n, 0, none⟩ : Addr).add j) = some u := by
  subst hn
  exact cell_one_new w (.int .i64 x) 3

theorem getElem?_zeros {zs : List Value} (hz : zs = List.replicate 33 (Value.bool false)) {k : Nat} (hk : k < 33) : zs[k]? = some (.bool false) := by
  subst hz
  rw [List.getElem?_replicate, if_pos hk]

theorem vs_kept {w wr w3 : World} {vs x : Value} {ys : List Int} {o : Obj} {row : Option Nat} {m : Nat} (ho : Own (w.heap.size + 2) wr vs ys) (hg : ((wr.setCell ⟨w.heap.size + 1, m, none⟩ x).alloc o).grownBy w3 row) (hne : ∀ c, vs.ownBlock = some c → row ≠ some c) : Own (w.heap.size + 2) w3 vs ys := by
  have h1 : Own (w.heap.size + 2) (wr.setCell ⟨w.heap.size + 1, m, none⟩ x) vs ys := ho.grown (grownBy_setCell wr ⟨w.heap.size + 1, m, none⟩ x) (fun k hk => by
    cases hk
    refine .inr fun c hc => ?_
    have := (World.ownsRow.lt ho c hc).1
    show c ≠ w.heap.size + 1
    omega)
  exact (h1.alloc o).grown hg (fun k hk => .inr fun c hc e => hne c hc (by rw [hk, e]))
theorem vs_apart {B n : Nat} {wr : World} {vs v v2 : Value} {ys : List Int} (ho : Own B wr vs ys) (hne : ∀ c, vs.ownBlock = some c → v.ownBlock ≠ some c) (hat : v2.ownBlock = v.ownBlock ∨ v2.ownBlock = some n) (hn : wr.heap.size ≤ n) : ∀ c, vs.ownBlock = some c → v2.ownBlock ≠ some c := by
  intro c hc e
  rcases hat with h | h
  · exact hne c hc (by rw [← h, e])
  · have := (World.ownsRow.lt ho c hc).2
    rw [h] at e
    cases e
    omega
theorem found_next {p : List I4} {us ys : List Int} {bs : List Bool} {xs : List Int} {j : Nat} {y : Int} (hys : ys = nextL p y.toNat) (hF : Found p us bs xs j ∧ xs[j]? = some y ∧ ∀ m ∈ ys.take ys.length, m ∈ xs) : Found p us bs xs (j + 1) := by
  obtain ⟨hj, ej⟩ := List.getElem?_eq_some_iff.1 hF.2.1
  refine hF.1.next hj ?_
  rw [ej, ← hys]
  have h := hF.2.2
  rwa [List.take_length] at h

end Go.Proofs.Ytimkcgbhkbchfaa
