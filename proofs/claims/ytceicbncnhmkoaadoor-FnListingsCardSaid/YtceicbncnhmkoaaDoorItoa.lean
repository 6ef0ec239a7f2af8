/- FormatInt of the program: strconv.Itoa by the shelf's contract, where the table of powers is laid. -/
import Derived.Test.YtceicbncnhmkoaaDoorBytes
import Derived.Test.YtceicbncnhmkoaaDoorShelf
import Derived.WalkSmall
namespace Go.Proofs.YtceicbncnhmkoaaDoor
open Go.RowKit Go Go.Sort

/-- The table of powers of ten, as start-up lays it. -/
def Pow10 (w : World) : Prop := Lib.TabIs Tryd.prog w "internal/strconv.uint64pow10" .u64 Lib.pow10Tab
theorem gPow10 : Tryd.prog.globalNamed "internal/strconv.uint64pow10" = some 4 := by kernel_rfl

theorem Pow10.lt {w : World} (h : Pow10 w) : 4 < w.heap.size := by
  have := h.cell gPow10 0 (by decide)
  exact World.block_lt_of_cell? w _ this
theorem Pow10.below {w w' : World} {B : Nat} (h : Pow10 w) (hb : Below B w w') (hB : w.heap.size ≤ B) : Pow10 w' :=
  var?_below hb gPow10 (Nat.lt_of_lt_of_le h.lt hB) h

theorem below_grow (w : World) (k : Nat) (os : Array Obj) : Below w.heap.size w (grow (w.drewN k) os) :=
  ⟨rfl, rfl, rfl, by simp [grow], fun i hi => by simp [grow, hi, Array.getElem?_append]⟩

theorem fmtP_any (n : Int) (w : World) (h0 : -9223372036854775808 ≤ n) (h1 : n ≤ 9223372036854775807) (hp : Pow10 w) : Calls Tryd.prog 40 #[.int .i64 n] w (fun e w' => e = .returned (.string ⟨(Lib.itoa n).toArray⟩) ∧ Below w.heap.size w w') := by
  have HP := Lib.hid hp
  clear hp
  go_enter Tryd.func40, Tryd.ntmps40
  go_wp2_with fail
  refine (Tryd.strconv_Itoa n h0 h1 _ HP.out).mono ?_
  rintro e w' ⟨rfl, k, os, rfl⟩
  have hb := below_grow w k os
  generalize grow (w.drewN k) os = w1 at *
  go_wp2_with fail
  go_ret
  exact ⟨rfl, hb⟩
end Go.Proofs.YtceicbncnhmkoaaDoor
