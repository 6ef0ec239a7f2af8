/- Bytes that a call owns, made a string; a figure's letter. -/
import Derived.Test.YtceicbncnhmkoaaDoorBase
import Derived.Test.YtceicbncnhmkoaaDoorChecked
import Derived.Deep.RegionLaw
import Derived.Deep.AppendLies
import Derived.WalkSpells
import Derived.LoopTactic
import Derived.OwnWalk
import Derived.Laws.BytesArg
namespace Go.Proofs.YtceicbncnhmkoaaDoor
open Go.RowKit Go

def figOf (x : Int) : Int := if x < 10 then 48 + x else 87 + x

theorem fig_any (x : Int) (w : World) (h0 : 0 ≤ x) (h1 : x < 16) : Calls Tryd.prog 65 #[.int .i64 x] w (fun e w' => e = .returned (.int .u8 (figOf x)) ∧ w' = w) := by
  by_cases h : x < 10
  all_goals go_enter Tryd.func65, Tryd.ntmps65
  all_goals go_wp2
  all_goals go_ret
  all_goals exact ⟨ret_int (by unfold figOf; split <;> omega), rfl⟩

theorem info_5 : (Tryd.prog.info? 5).map (fun i => (i.zero, i.size, i.bytes)) = some (some (.int .u8 0), 1, 1) := by kernel_rfl

/-- Bytes that the call owns, made a string. -/
theorem own_string {w : World} {base n : Nat} {v : Value} {xs : List Int} (h : w.ownsRow base 5 1 v n (xs.map (.int .u8))) : (convert 22 9 v).run Tryd.prog w = .ok (.string (strOfNums xs)) w := by
  have hl : xs.length = n := by have := h.1; simpa using this
  have hcells := fun g hg => h.cells (g := g) hg
  rcases h.2 with ⟨rfl, rfl⟩ | ⟨g, cap, cur, rfl, _, hg, _⟩
  · obtain rfl : xs = [] := by cases xs <;> simp_all
    exact run_convert_bytes_nil w 22 5 Tryd.underlying22 Tryd.underlying5 0 0 9 Tryd.underlying9
  · refine run_convert_bytes_arg w 22 5 Tryd.underlying22 Tryd.underlying5 g 0 n cap xs hl (fun i hi => ?_) 9 Tryd.underlying9
    have := hcells g rfl i (.int .u8 (xs.getD i 0)) (by
      rw [List.getElem?_map, List.getD_eq_getElem?_getD, List.getElem?_eq_getElem (by omega)]; rfl)
    have hadd : (⟨g, 0, none⟩ : Addr).add i = ⟨g, 0 + i, none⟩ := by unfold Addr.add; split <;> simp_all
    rw [hadd] at this
    exact this

/-- One byte, made a string: 'string([]byte{x})'. -/
theorem one_string (x : Int) (w : World) : (convert 22 9 (.slice (some ⟨w.heap.size, 0, none⟩) 1 1)).run Tryd.prog (w.alloc (.cells #[.int .u8 x] 5)) = .ok (.string (strOfNums [x])) (w.alloc (.cells #[.int .u8 x] 5)) :=
  run_convert_bytes_arg _ 22 5 Tryd.underlying22 Tryd.underlying5 w.heap.size 0 1 1 [x] rfl (fun i hi => by
    obtain rfl : i = 0 := by omega
    have := heap_alloc_new w (.cells #[.int .u8 x] 5)
    unfold World.cell?
    rw [this]
    rfl) 9 Tryd.underlying9

theorem below_own {B : Nat} {W w w1 : World} {v : Value} {o : Obj} {e : TypeId} {size n : Nat} {xs : List Value} (hb : Below B W w) (hB : B ≤ w.heap.size) (hown : w.ownsRow B e size v n xs) (hg : ((w.alloc o).drew).grownBy w1 v.ownBlock) : Below B W w1 :=
  ((hb.alloc hB o).drew).grown hg (by simp; omega) (fun k hk => (hown.lt k hk).1)

theorem below_own1 {B : Nat} {W w w1 : World} {v : Value} {o : Obj} {e : TypeId} {size n : Nat} {xs : List Value} (hb : Below B W w) (hB : B ≤ w.heap.size) (hown : w.ownsRow B e size v n xs) (hg : (w.alloc o).grownBy w1 v.ownBlock) : Below B W w1 :=
  (hb.alloc hB o).grown hg (by simp; omega) (fun k hk => (hown.lt k hk).1)

end Go.Proofs.YtceicbncnhmkoaaDoor
