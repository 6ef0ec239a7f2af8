/- The table of the checks of the fields, row by row. -/
import Derived.Test.YtmiopbpahkgmbaaInsOk
import Derived.Laws.Tables
import Derived.Laws.EntriesVeiled
namespace Go.Proofs.Ytmiopbpahkgmbaa
open Go.RowKit Go

def fnV (F : FuncId) : Value := .func (.func F) #[] #[]
def chkRow (F G H : FuncId) : List Value := [fnV F, fnV G, fnV H]
abbrev fU : FuncId := 98
abbrev fR : FuncId := 99
abbrev fC : FuncId := 100
abbrev fT : FuncId := 101
def chkTab : Array Value := (chkRow fU fU fU ++ chkRow fR fC fU ++ chkRow fR fR fU ++ chkRow fR fR fR ++ chkRow fR fR fR ++ chkRow fR fR fR ++ chkRow fR fR fR ++ chkRow fR fR fR ++ chkRow fR fU fU ++ chkRow fR fR fR
  ++ chkRow fR fT fU ++ chkRow fU fT fU ++ chkRow fU fU fU ++ chkRow fR fR fU ++ chkRow fR fR fU ++ chkRow fR fR fU ++ chkRow fU fU fU).toArray

theorem alloc_setRow (w : World) (old cs : Array Value) (t : TypeId) (n : Nat) (hn : n = w.heap.size) : (w.alloc (.cells old t)).setRow n cs = w.alloc (.cells cs t) := by
  subst hn
  unfold World.setRow World.alloc
  congr 1
  apply Array.ext
  · simp
  · intro k h1 h2
    simp only [Array.getElem_modify, Array.getElem_push]
    split
    · rename_i h
      subst h
      simp
    · rename_i h
      have h3 : k < w.heap.size := by simp at h2; omega
      simp [h3]

theorem alloc_at (w : World) (o : Obj) (n : Nat) (hn : n = w.heap.size) : (w.alloc o).heap[n]? = some o := by
  subst hn; exact Array.getElem?_push_size

set_option maxRecDepth 100000 in
set_option maxHeartbeats 4000000 in
theorem checks_at (k : Nat) (hk : k < 17) (F G H : FuncId) (h0 : chkTab[k * 3]? = some (.func (.func F) #[] #[])) (h1 : chkTab[k * 3 + 1]? = some (.func (.func G) #[] #[])) (h2 : chkTab[k * 3 + 2]? = some (.func (.func H) #[] #[])) (w : World) :
    Calls Try.prog 84 #[.int .i64 k] w (Said (.agg #[.func (.func F) #[] #[], .func (.func G) #[] #[], .func (.func H) #[] #[]]) w) := by
  go_enter Try.func84, Try.ntmps84
  go_wp2_with (with_reducible refine wpList_store_row rfl 107 _ _ rfl (w.heap.size + 1) chkTab rfl rfl 107 _ (alloc_at _ _ _ (by simp)) (by kernel_rfl) (by kernel_rfl) (by kernel_rfl) ?_; rw [alloc_setRow _ _ _ _ _ (by simp)])
  exact bodyPost_ret (v := .agg #[.func (.func F) #[] #[], .func (.func G) #[] #[], .func (.func H) #[] #[]]) (by simp [results, Try.results84, go_sem]) rfl ⟨rfl, below2 _ _ _⟩

end Go.Proofs.Ytmiopbpahkgmbaa
