/- Go's table of powers of ten, out of the row's own condition. -/
import Derived.Test.YtacjbinjlooohaaDoorRows
import Derived.Test.YtacjbinjlooohaaDoorUtPow
import Derived.Stop.LaidErr
import Derived.PinnedBridge
import Derived.LaidMore
import Derived.Lay
namespace Go.Proofs.YtacjbinjlooohaaDoor
open Go.RowKit Go.Lib
set_option linter.unusedVariables false
set_option maxRecDepth 100000

def laidV : List (String × DataW Unit) := [("math/bits.deBruijn32tab", Rows.laid_math_bits_deBruijn32tab), ("math/bits.deBruijn64tab", Rows.laid_math_bits_deBruijn64tab), ("internal/strconv.uint64pow10", Rows.laid_internal_strconv_uint64pow10)]
def Ltr (w : World) : Prop := Pow w
theorem pow_data : (Rows.laid_internal_strconv_uint64pow10 : DataW Unit) = tabData .u64 pow10Tab := by kernel_rfl
theorem ltr_of_laid {W : World} (h : laidMetH Tryd.prog laidV W) : Ltr W := by
  rw [MakeChecks.laidMetH_plain _ _ _ (by kernel_rfl)] at h
  unfold laidV at h
  rw [pow_data] at h
  exact tabIs_of_head (g := 2) (t := 66) (e := 41) (n := 20) (by kernel_rfl) (by kernel_rfl) Tryd.underlying66 Tryd.underlying41 (by kernel_rfl) (by kernel_rfl) h.tail.tail
end Go.Proofs.YtacjbinjlooohaaDoor
