/- When an instruction is valid, in plain words. -/
import Derived.Test.YtmiopbpahkgmbaaIns
namespace Go.Proofs.Ytmiopbpahkgmbaa
open Go.RowKit Go

/-- Is a number 0? -/
def zB (n : Int) : Bool := decide (n = 0)
theorem zB_yes : zB 0 = true := rfl
theorem zB_no {n : Int} (h : ¬ n = 0) : zB n = false := by unfold zB; simpa using h

/-- The checks of an operation's fields. -/
def chA (o a : Int) : Bool := if o = 0 ∨ o = 11 ∨ o = 12 ∨ o = 16 then zB a else inO a 0 3
def chB (o b s : Int) : Bool := if o = 1 then isW b else if o = 10 ∨ o = 11 then inO b 0 s else if o = 0 ∨ o = 8 ∨ o = 12 ∨ o = 16 then zB b else inO b 0 3
def chC (o c : Int) : Bool := if 3 ≤ o ∧ o ≤ 7 ∨ o = 9 then inO c 0 3 else zB c
/-- Is an instruction valid in a program of s? -/
def insOk (o a b c s : Int) : Bool := if inO s 0 32 = true ∧ inO o 0 16 = true then chA o a && chB o b s && chC o c else false

end Go.Proofs.Ytmiopbpahkgmbaa
