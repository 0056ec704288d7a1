/- Package elastic, as the statements use it. -/
import Derived.Test.YtkjgpidiompmlaaEl6
namespace Go.Proofs.Ytkjgpidiompmlaa
open Go.RowKit
open Go.Lib hiding intOf
set_option linter.unusedVariables false
set_option linter.unusedSimpArgs false

theorem efloor_b (A : Option Addr) (cap : Nat) (l : List Sp) (v : Int) (o : Bool) (w : World) (hcap : cap ≤ 9223372036854775807) (hlc : l.length ≤ cap) (hR : RdSp w A l) (hv : floorV l = v) (ho : floorOk l = o) :
    Calls Try.prog 12 #[.slice A l.length cap] w (RetB (.tuple #[.int .i64 v, .bool o]) w) := efloor_any A cap l v o w hcap hlc hR hv ho
theorem ecost_b (A : Option Addr) (cap : Nat) (l : List Sp) (X : Option Addr) (xc : Nat) (xs : List Int) (v : Int) (o : Bool) (w : World) (hcap : cap ≤ 9223372036854775807) (hlc : l.length ≤ cap) (hR : RdSp w A l) (hxl : xs.length ≤ 9223372036854775807) (hxf : ∀ x ∈ xs, fitB x = true) (hX : ReadsI w X xs) (hv : costV l xs = v) (ho : costOk l xs = o) :
    Calls Try.prog 11 #[.slice A l.length cap, .slice X xs.length xc] w (RetB (.tuple #[.int .i64 v, .bool o]) w) := ecost_any A cap l X xc xs v o w hcap hlc hR hxl hxf hX hv ho
theorem epress_b (A : Option Addr) (cap : Nat) (l : List Sp) (room e : Int) (xs : List Int) (w : World) (hcap : cap ≤ 9223372036854775807) (hlc : l.length ≤ cap) (hR : RdSp w A l) (hrf : fitB room = true) (h : PressR room l e xs) :
    Calls Try.prog 10 #[.slice A l.length cap, .int .i64 room] w (PressA e xs w) := epress_any A cap l room e xs w hcap hlc hR hrf h
end Go.Proofs.Ytkjgpidiompmlaa
