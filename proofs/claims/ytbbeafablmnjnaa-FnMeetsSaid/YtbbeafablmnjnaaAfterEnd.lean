/- FnAfters and FnMeets: their walks, over the program's contracts. -/
import Derived.Test.YtbbeafablmnjnaaFnAfters
import Derived.Test.YtbbeafablmnjnaaFnMeets
import Derived.Test.YtbbeafablmnjnaaAfterF
namespace Go.Proofs.Ytbbeafablmnjnaa
open Go.RowKit Go

theorem afterSays (p : List I4) (R : List Int → Nat → Bool) (RA : List Int → Int → Nat → Bool) (hR : AllReach p R) (hRA : AllAvoid p RA) : AfterSays p R RA :=
  ⟨fun B w a cap k c hl h hB => pIsAfter_any B w a p R hR RA hRA cap k c hl h hB, fun B w a cap k hl h hB => pAfters_any B w a p R hR RA hRA cap k hl h hB, fun B w a cap k hl h hB => pFirstAfter_any B w a p R hR RA hRA cap k hl h hB⟩
theorem meetsSays (p : List I4) (R : List Int → Nat → Bool) (RA : List Int → Int → Nat → Bool) (hR : AllReach p R) (hRA : AllAvoid p RA) : MeetsSays p R RA :=
  fun B w a cap k m hl h hB => pMeets_any B w a p R hR RA hRA cap k m hl h hB

theorem fnAfters_any (a : Option Addr) (len cap : Nat) (zs : List Int) (w : World) (hr : IsRow .u8 w a len cap zs) :
    Calls Try.prog 3 #[.slice a len cap] w fun e w' => e = .returned (.bool true) ∧ Below w.heap.size w w' := fnAfters_walk afterSays a len cap zs w hr
theorem fnMeets_any (a : Option Addr) (len cap : Nat) (zs : List Int) (w : World) (hr : IsRow .u8 w a len cap zs) :
    Calls Try.prog 4 #[.slice a len cap] w fun e w' => e = .returned (.bool true) ∧ Below w.heap.size w w' := fnMeets_walk afterSays meetsSays a len cap zs w hr

end Go.Proofs.Ytbbeafablmnjnaa
