/- Package util, as the statements use it. -/
import Derived.Test.YtacjbinjlooohaaDoorUt1
import Derived.Test.YtacjbinjlooohaaDoorUtText
import Derived.Test.YtacjbinjlooohaaDoorUtGet
namespace Go.Proofs.YtacjbinjlooohaaDoor
open Go.RowKit
open Go.Lib hiding intOf
set_option linter.unusedVariables false
set_option linter.unusedSimpArgs false

theorem uof_b (need per v : Int) (o : Bool) (w : World) (hn : fitB need = true) (hp : fitB per = true) (hv : utilV need per = v) (ho : utilOk need per = o) :
    Calls Tryd.prog 9 #[.int .i64 need, .int .i64 per] w (RetB (.tuple #[.int .i64 v, .bool o]) w) := uof_any need per v o w hn hp hv ho
theorem uper_b (need share v : Int) (o : Bool) (w : World) (hn : fitB need = true) (hp : fitB share = true) (hv : periodV need share = v) (ho : periodOk need share = o) :
    Calls Tryd.prog 10 #[.int .i64 need, .int .i64 share] w (RetB (.tuple #[.int .i64 v, .bool o]) w) := uper_any need share v o w hn hp hv ho
theorem usum_b (A : Option Addr) (c : Nat) (l : List Int) (v : Int) (o : Bool) (w : World) (hl : l.length ≤ 9223372036854775807) (hf : ∀ x ∈ l, fitB x = true) (hr : ReadsI w A l) (hv : totV l = v) (ho : totOk l = o) :
    Calls Tryd.prog 11 #[.slice A l.length c] w (RetB (.tuple #[.int .i64 v, .bool o]) w) := (usum_any A c l v o w hl hf hr hv ho).mono fun e w' h => h.below
theorem rsum_b (A : Option Addr) (c : Nat) (l : List Int) (v : Int) (o : Bool) (w : World) (hl : l.length ≤ 9223372036854775807) (hf : ∀ x ∈ l, fitB x = true) (hr : ReadsI w A l) (hv : totV l = v) (ho : totOk l = o) :
    Calls Tryd.prog 15 #[.slice A l.length c] w (RetB (.tuple #[.int .i64 v, .bool o]) w) := (rsum_any A c l v o w hl hf hr hv ho).mono fun e w' h => h.below
theorem utext_b (n : Int) (w : World) (hn : fitB n = true) (hP : Pow w) : Calls Tryd.prog 12 #[.int .i64 n] w (RetB (.string (bs (textZ n))) w) := utext_any n w hn hP
end Go.Proofs.YtacjbinjlooohaaDoor
