/- An argument that is a row of instructions. -/
import Derived.Test.YtmiopbpahkgmbaaRowS
import Derived.Test.YtmiopbpahkgmbaaProgs
namespace Go.Proofs.Ytmiopbpahkgmbaa
open Go.RowKit Go Go.ChangeShapes Go.WideShapes Go.Deep

theorem unflat : ∀ (n : Nat) (xs : List Int), xs.length = n * 4 → ∃ p : List I4, p.length = n ∧ flat p = xs
  | 0, xs, h => ⟨[], rfl, (List.eq_nil_of_length_eq_zero (by simpa using h)).symm⟩
  | n + 1, xs, h => by
    match xs, h with
    | o :: a :: b :: c :: ys, h =>
      obtain ⟨p, hl, hf⟩ := unflat n ys (by simp at h; omega)
      exact ⟨⟨o, a, b, c⟩ :: p, by simp [hl], by simp [flat, hf]⟩
    | [], h => simp at h
    | [_], h => simp at h; omega
    | [_, _], h => simp at h; omega
    | [_, _, _], h => simp at h; omega

theorem open_rowI {H : Type} {enc : TypeId × Value → H} {P : Program} {w : World} {held : Bool} {t e ti : TypeId} {fs : Array Field} {a : Option Addr} {len cap : Nat} {d : DataW H} {pl : List MemPlace}
    (ht : P.underlying t = some (.slice e)) (he : P.underlying e = some (.struct fs)) (hone : oneCellFields P fs = true) (hC : P.cellsOf e = fs.size) (h4 : fs.size = 4) (hti : P.underlying ti = some (.int .i64)) (hall : fs.all (fun f => f.type == ti) = true)
    (h : DataW.Trod enc P w 0 (fun _ => true) held t (.slice a len cap) d pl) :
    ∃ p : List I4, len = p.length ∧ p.length ≤ maxLen ∧ Nums w.heap.size w a (flat p) := by
  obtain ⟨fuel, hf⟩ := h
  obtain ⟨a', len', cap', xs, hcs, hl, hxl, hn⟩ := open_rowS ht he hone hC (all_ints hti hall) hf
  simp [Value.cells] at hcs
  obtain ⟨rfl, rfl, rfl⟩ := hcs
  obtain ⟨p, hp, rfl⟩ := unflat len xs (by rw [hxl, h4])
  exact ⟨p, hp.symm, by omega, hn⟩

end Go.Proofs.Ytmiopbpahkgmbaa
