/- The names of the operations: a table of strings that start-up lays. -/
import Derived.Test.YtceicbncnhmkoaaDoorInsOkP
import Derived.Test.YtceicbncnhmkoaaDoorLaidStr
namespace Go.Proofs.YtceicbncnhmkoaaDoor
open Go.RowKit Go

/-- The name of operation k. -/
def opN : Nat → ByteArray
  | 0 => ⟨#[110, 111, 112]⟩
  | 1 => ⟨#[115, 101, 116]⟩
  | 2 => ⟨#[109, 111, 118, 101]⟩
  | 3 => ⟨#[97, 100, 100]⟩
  | 4 => ⟨#[115, 117, 98]⟩
  | 5 => ⟨#[109, 117, 108]⟩
  | 6 => ⟨#[120, 111, 114]⟩
  | 7 => ⟨#[108, 101, 115, 115]⟩
  | 8 => ⟨#[115, 101, 108, 102]⟩
  | 9 => ⟨#[112, 105, 99, 107]⟩
  | 10 => ⟨#[122, 101, 114, 111]⟩
  | 11 => ⟨#[106, 117, 109, 112]⟩
  | 12 => ⟨#[104, 97, 108, 116]⟩
  | 13 => ⟨#[108, 111, 97, 100]⟩
  | 14 => ⟨#[115, 116, 111, 114, 101]⟩
  | 15 => ⟨#[98, 117, 109, 112]⟩
  | 16 => ⟨#[98, 97, 114, 114, 105, 101, 114]⟩
  | _ => ⟨#[]⟩

/-- The name of an operation, nothing where there is none. -/
def nameOf (o : Int) : ByteArray := if inO o 0 16 = true then opN o.toNat else ⟨#[]⟩

/-- The variable holds the names. -/
def NamesIs (w : World) : Prop := ∀ k, k < 17 → w.cell? ⟨0, k, none⟩ = some (.string (opN k))

theorem NamesIs.kept {w w' : World} (h : NamesIs w) (hb : Below w.heap.size w w') : NamesIs w' := fun k hk => by
  have hc := h k hk
  rw [hb.cell (World.block_lt_of_cell? w _ hc)]
  exact hc

/-- The names, as the bytes that start-up lays. -/
abbrev opBytes : List (List UInt8) := (List.range 17).map fun k => (opN k).data.toList
theorem names_of {w : World} (h : StrTab Tryd.prog w "loop.example/g00985/impl.opNames" opBytes) : NamesIs w := by
  intro k hk
  have hc := h.cell (g := 0) (by kernel_rfl) k (by simpa using hk)
  rw [hc]
  have e : (opBytes[k]'(by simpa using hk)) = (opN k).data.toList := by simp [opBytes]
  rw [e]

theorem pOpName_any (o : Int) (w : World) (hT : NamesIs w) : Calls Tryd.prog 39 #[.int .i64 o] w (fun e w' => e = .returned (.string (nameOf o)) ∧ w = w') := by
  unfold nameOf
  have h1 := fun W => pIsOp_any o W
  cases ho : inO o 0 16 with
  | false =>
    rw [if_neg (by simp)]
    rw [ho] at h1
    replace h1 := Lib.hid h1
    clear ho hT
    go_enter Tryd.func39, Tryd.ntmps39
    go_wp2_with fail
    refine (h1.out _).mono ?_
    rintro e w' ⟨rfl, rfl⟩
    go_wp2_with fail
    go_ret
    exact ⟨rfl, rfl⟩
  | true =>
    rw [if_pos rfl]
    rw [ho] at h1
    replace h1 := Lib.hid h1
    obtain ⟨k, rfl⟩ := Int.eq_ofNat_of_zero_le (inO_iff.1 ho).1
    have hk : k < 17 := by have := (inO_iff.1 ho).2; omega
    have hcell := hT k hk
    clear ho hT
    rw [Int.toNat_natCast]
    generalize opN k = s at *
    go_enter Tryd.func39, Tryd.ntmps39
    go_wp2_with fail
    refine (h1.out _).mono ?_
    rintro e w' ⟨rfl, rfl⟩
    go_wp2_with fail
    go_ret
    exact ⟨rfl, rfl⟩

end Go.Proofs.YtceicbncnhmkoaaDoor
