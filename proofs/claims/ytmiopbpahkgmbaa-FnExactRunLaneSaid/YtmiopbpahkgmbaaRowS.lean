/- An argument that is a row of structs all of whose fields are numbers: the row of its fields. -/
import Derived.Test.YtmiopbpahkgmbaaInts
import Derived.Deep.Slices
import Derived.Deep.Fields
import Derived.ChangeSame
namespace Go.Proofs.Ytmiopbpahkgmbaa
open Go.RowKit Go Go.ChangeShapes Go.WideShapes Go.Deep

theorem list_of {Q : Nat → Int → Prop} : ∀ (n : Nat), (∀ j, j < n → ∃ x, Q j x) → ∃ xs : List Int, xs.length = n ∧ ∀ j (h : j < xs.length), Q j xs[j]
  | 0, _ => ⟨[], rfl, fun j h => absurd h (by simp)⟩
  | n + 1, h => by
    obtain ⟨xs, hl, hx⟩ := list_of (Q := Q) n (fun j hj => h j (by omega))
    obtain ⟨x, hq⟩ := h n (by omega)
    refine ⟨xs ++ [x], by simp [hl], fun j hj => ?_⟩
    by_cases hlt : j < xs.length
    · rw [List.getElem_append_left hlt]; exact hx j hlt
    · have hj' : j = n := by simp at hj; omega
      subst hj'
      rw [List.getElem_append_right (by omega)]
      simpa [hl] using hq

/-- One struct of numbers: its cells are numbers. -/
theorem struct_cells {H : Type} {enc : TypeId × Value → H} {P : Program} {w : World} {base : Nat} {spare : Nat → Bool} {held : Bool} {e : TypeId} {fs : Array Field} {n : Nat} {cs : List Value} {y : DataW H × List MemPlace}
    (he : P.underlying e = some (.struct fs)) (hone : oneCellFields P fs = true) (hC : P.cellsOf e = fs.size) (hint : ∀ (j : Nat) f, fs[j]? = some f → P.underlying f.type = some (.int .i64))
    (h : DataW.trod enc P w base spare held n e cs = some y) : ∀ j, j < fs.size → ∃ x, i64R x ∧ cs[j]? = some (.int .i64 x) := by
  obtain ⟨ys, n', _, _, hcl, hyl, hf⟩ := DataW.trod_struct he h
  intro j hj
  obtain ⟨f, hfj⟩ : ∃ f, fs[j]? = some f := ⟨_, Array.getElem?_eq_getElem hj⟩
  obtain ⟨ho, hk⟩ := hone_of hone j f hfj
  have h1 := hf j f hfj
  rw [ho, hk, List.getElem?_eq_getElem (by omega)] at h1
  obtain ⟨x, hc, _, hw⟩ := DataW.trod_int (hint j f hfj) h1
  refine ⟨x, i64R_of hw, ?_⟩
  have e := congrArg (fun l => l[0]?) hc
  simpa [List.getElem?_take, List.getElem?_drop] using e

theorem all_ints {P : Program} {fs : Array Field} {ti : TypeId} (hti : P.underlying ti = some (.int .i64)) (hall : fs.all (fun f => f.type == ti) = true) : ∀ (j : Nat) f, fs[j]? = some f → P.underlying f.type = some (.int .i64) := by
  intro j f hf
  obtain ⟨hj, rfl⟩ := Array.getElem?_eq_some_iff.1 hf
  have h := (Array.all_eq_true.1 hall) j hj
  have e : fs[j].type = ti := by simpa using h
  rw [e]
  exact hti

theorem open_rowS {H : Type} {enc : TypeId × Value → H} {P : Program} {w : World} {held : Bool} {t e : TypeId} {fs : Array Field} {fuel : Nat} {cs : List Value} {y : DataW H × List MemPlace}
    (ht : P.underlying t = some (.slice e)) (he : P.underlying e = some (.struct fs)) (hone : oneCellFields P fs = true) (hC : P.cellsOf e = fs.size) (hint : ∀ (j : Nat) f, fs[j]? = some f → P.underlying f.type = some (.int .i64))
    (h : DataW.trod enc P w 0 (fun _ => true) held fuel t cs = some y) :
    ∃ (a : Option Addr) (len cap : Nat) (xs : List Int), cs = [.slice a len cap] ∧ len ≤ maxLen ∧ xs.length = len * fs.size ∧ Nums w.heap.size w a xs := by
  rcases open_slice ht h with ⟨hcs, _⟩ | ⟨a, len, cap, m, n, D, Pl, hcs, _, hl, hm, hmm, _, hi⟩
  · exact ⟨none, 0, 0, [], hcs, by unfold maxLen; omega, by simp, Nums.nil _ _ _⟩
  · have key : ∀ j, j < len * fs.size → ∃ x, i64R x ∧ w.cell? (a.add j) = some (.int .i64 x) := by
      intro j hj
      have hs : 0 < fs.size := by
        rcases Nat.eq_zero_or_pos fs.size with h0 | h0
        · rw [h0, Nat.mul_zero] at hj; omega
        · exact h0
      have hd : j / fs.size < len := by rw [Nat.div_lt_iff_lt_mul hs]; exact hj
      have hmc : m = cap := by simpa using hmm
      obtain ⟨cs', hc, ht'⟩ := hi (j / fs.size) (by omega)
      rw [hC] at hc
      obtain ⟨_, _, hat⟩ := World.cells?_some hc
      have hr : j % fs.size < fs.size := Nat.mod_lt _ hs
      obtain ⟨x, hx, hcx⟩ := struct_cells he hone hC hint ht' _ hr
      have h1 := hat _ hr
      rw [Go.Deep.add_add, hcx, Nat.mul_comm, Nat.div_add_mod] at h1
      exact ⟨x, hx, h1⟩
    obtain ⟨xs, hxl, hx⟩ := list_of (len * fs.size) key
    refine ⟨some a, len, cap, xs, hcs, by omega, hxl, fun x hm => ?_, fun j hj => ?_⟩
    · obtain ⟨j, hj, rfl⟩ := List.getElem_of_mem hm
      exact (hx j hj).1
    · have hc := (hx j hj).2
      obtain ⟨b, off, spot⟩ := a
      have hspot : spot = none := by simpa [Addr.add] using World.cell?_spot (hx 0 (by omega)).2
      subst hspot
      rw [Go.WideShapes.add_plain] at hc
      exact ⟨b, off, rfl, World.block_lt_of_cell? w _ hc, hc⟩

end Go.Proofs.Ytmiopbpahkgmbaa
