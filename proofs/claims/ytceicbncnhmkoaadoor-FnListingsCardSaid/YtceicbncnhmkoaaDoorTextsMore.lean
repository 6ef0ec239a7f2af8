/- Rows of texts: one that is made and filled text by text; a copy of one that came in; its size. -/
import Derived.Test.YtceicbncnhmkoaaDoorMark
import Derived.Test.YtceicbncnhmkoaaDoorParseW
namespace Go.Proofs.YtceicbncnhmkoaaDoor
open Go.RowKit Go

theorem madeT (n : Nat) : (madeCells (Value.string ⟨#[]⟩).cells n).toList = (List.replicate n (⟨#[]⟩ : ByteArray)).map .string := by
  apply List.ext_getElem?
  intro j
  have e : (Value.string ⟨#[]⟩).cells = #[.string ⟨#[]⟩] := rfl
  rw [e]
  by_cases hj : j < n
  · simp [madeCells, hj, Nat.mod_one]
  · simp [madeCells, hj]

/-- The first k texts of xs, the others empty still. -/
def fillT (xs : List ByteArray) (k : Nat) : List ByteArray := xs.take k ++ List.replicate (xs.length - k) ⟨#[]⟩
theorem fillT_len (xs : List ByteArray) (k : Nat) (h : k ≤ xs.length) : (fillT xs k).length = xs.length := by
  unfold fillT; rw [List.length_append, List.length_take, List.length_replicate]; omega
theorem fillT_set (xs : List ByteArray) (k : Nat) (h : k < xs.length) : (fillT xs k).set k xs[k] = fillT xs (k + 1) := by
  unfold fillT
  have hl : (xs.take k).length = k := by rw [List.length_take]; omega
  rw [List.set_append_right _ _ (by omega), hl, Nat.sub_self, show xs.length - k = (xs.length - (k + 1)) + 1 from by omega, List.replicate_succ, List.set_cons_zero, List.take_succ_eq_append_getElem h, List.append_assoc]
  rfl
theorem fillT_end (xs : List ByteArray) : fillT xs xs.length = xs := by unfold fillT; simp

/-- k texts of xs have been stored into the made row in block g. -/
def FillRel (xs : List ByteArray) (W : World) (g : Nat) (i : Value) (wr : World) : Prop :=
  ∃ k : Nat, k ≤ xs.length ∧ i = .int .i64 k ∧ Texts wr W.heap.size (.slice (some ⟨g, 0, none⟩) xs.length xs.length) (fillT xs k) ∧ Below W.heap.size W wr
theorem fill_start {xs : List ByteArray} {W w0 w1 : World} (hb : Below W.heap.size W w0) (h : w1.ownsRow w0.heap.size 9 1 (.slice (some ⟨w0.heap.size, 0, none⟩) xs.length xs.length) xs.length (madeCells (Value.string ⟨#[]⟩).cells (xs.length * 1)).toList) (hg : w0.grownBy w1 none) : FillRel xs W w0.heap.size (.int .i64 0) w1 := by
  refine ⟨0, Nat.zero_le _, rfl, ?_, hb.grown hg hb.size (fun _ e => by cases e)⟩
  rw [Nat.mul_one, madeT] at h
  unfold Texts fillT
  rw [List.take_zero, Nat.sub_zero, List.nil_append, List.length_replicate]
  exact ⟨h.1, h.2.imp id fun ⟨g, c, cur, e1, e2, e3⟩ => ⟨g, c, cur, e1, Nat.le_trans hb.size e2, e3⟩⟩
theorem fill_next {xs : List ByteArray} {W wr : World} {g k : Nat} (hk : k < xs.length) (hg : W.heap.size ≤ g) (ho : Texts wr W.heap.size (.slice (some ⟨g, 0, none⟩) xs.length xs.length) (fillT xs k)) (hb : Below W.heap.size W wr) :
    FillRel xs W g (.int .i64 ((k : Int) + 1)) (wr.setCell ⟨g, k, none⟩ (.string xs[k])) :=
  ⟨k + 1, hk, by go_num, by rw [← fillT_set xs k hk]; exact ho.stored k _, hb.grown (grownBy_setCell _ _ _) hb.size (fun j e => by cases e; exact hg)⟩
theorem fill_cell {xs : List ByteArray} {W wr : World} {g k : Nat} (hk : k < xs.length) (ho : Texts wr W.heap.size (.slice (some ⟨g, 0, none⟩) xs.length xs.length) (fillT xs k)) : (∃ x, wr.cell? ⟨g, k, none⟩ = some (.string x)) ∧ wr.frozen? ⟨g, k, none⟩ = false := by
  have hlen := fillT_len xs k (Nat.le_of_lt hk)
  obtain ⟨g', hg', _, _, hc⟩ := ho.cell k (by omega)
  obtain rfl : g = g' := by injection hg' with e; injection e
  have h := ho
  unfold Texts at h
  rw [hlen] at h
  exact ⟨⟨_, hc⟩, World.ownsRow.frozenAt h k⟩

theorem Texts.row {w : World} {base : Nat} {a : Option Addr} {n cap : Nat} {xs : List ByteArray} (h : Texts w base (.slice a n cap) xs) : WordRow w a xs := fun j hj => by
  obtain ⟨g, e, _, hg, hc⟩ := h.cell j hj
  exact ⟨g, 0, e, hg, by rw [Nat.zero_add]; exact hc⟩

set_option maxHeartbeats 400000 in
theorem toStringS_any (w : World) (a : Option Addr) (xs : List ByteArray) (cap : Nat) (hl : xs.length ≤ 1048576) (h : WordRow w a xs) :
    Calls Tryd.prog 29 #[.slice a xs.length cap] w (fun e w' => ∃ v, e = .returned v ∧ Texts w' w.heap.size v xs ∧ Below w.heap.size w w') := by
  obtain ⟨i0, hi, hz0, hz1, hz2⟩ := info_parts info_9
  have HH := Lib.hid h
  clear h
  have hm : xs.length ≤ maxLen := by unfold maxLen; omega
  go_enter Tryd.func29, Tryd.ntmps29
  go_wp2_with (at_make; refine wpList_make_full _ rfl _ _ _ rfl w.heap.size 9 i0 (.string ⟨#[]⟩) 1 Tryd.underlying26 hi hz0 hz1 .i64 .i64 _ _ xs.length rfl rfl rfl rfl (by rw [hz2]; omega) hm (Nat.le_refl _) ?_; intro w1 hown hgrow)
  have HS := Lib.hid (fill_start (Below.refl _ _) hown hgrow)
  clear hown hgrow
  go_wp2_with fail
  go_loopw [4] (fun i wr => FillRel xs w w.heap.size i wr) (fun i _ => xs.length - (intOf i).toNat)
  case atStart => exact HS.out
  case round =>
    obtain ⟨k, hk, rfl, hown, hbel⟩ := hrel
    by_cases hlt : k < xs.length
    · obtain ⟨g, off, rfl, hg, c0⟩ := (HH.out.below hbel) k hlt
      obtain ⟨⟨x0, d0⟩, f0⟩ := fill_cell hlt hown
      have HN := Lib.hid (fill_next hlt (Nat.le_refl _) hown hbel)
      clear hown
      generalize xs[k] = x at *
      go_wp2_with fail
      go_roundw
      case rel => exact HN.out
      case measure => simp [intOf]; omega
    · obtain rfl : k = xs.length := by omega
      rw [fillT_end] at hown
      have HO := Lib.hid hown
      clear hown
      go_wp2_with fail
      go_ret
      exact ⟨_, rfl, HO.out, hbel⟩

end Go.Proofs.YtceicbncnhmkoaaDoor
