/- Go's tables of letters, out of the row's own condition. -/
import Derived.Test.YtacffjkhbajgkaaDoorRows
import Derived.Test.YtacffjkhbajgkaaDoorName1
import Derived.PinnedBridge
import Derived.Lib.LaidU8
import Derived.LaidMore
import Derived.Lay
namespace Go.Proofs.YtacffjkhbajgkaaDoor
open Go.RowKit Go.Lib
set_option linter.unusedVariables false
set_option maxRecDepth 100000

def laidV : List (String × DataW Unit) := [("unicode.properties", Rows.laid_unicode_properties), ("unicode.Letter", Rows.laid_unicode_Letter)]
theorem rextra : RExtra Tryd.prog Tryd.lays261_ren := ⟨by kernel_rfl, by kernel_rfl, by kernel_rfl, by kernel_rfl, by kernel_rfl, by kernel_rfl, by kernel_rfl, by kernel_rfl⟩
theorem props_data : (Rows.laid_unicode_properties : DataW Unit) = tabData .u8 propertiesTab := by kernel_rfl
theorem ltr_of_laid {W : World} (h : laidMetH Tryd.prog laidV W) : Ltr W := by
  rw [MakeChecks.laidMetH_plain _ _ _ (by kernel_rfl)] at h
  refine ⟨?_, ?_⟩
  · unfold laidV at h
    rw [props_data] at h
    exact tabIs_of_head (g := 0) (t := 78) (e := 5) (n := 256) (by kernel_rfl) (by kernel_rfl) Tryd.underlying78 Tryd.underlying5 (by kernel_rfl) (by kernel_rfl) h
  · exact rvar_of_reads Tryd.lays261 rextra (name := "unicode.Letter") (by kernel_rfl) (by kernel_rfl) (Pinned.letter_eq ▸ Lib.laidMet.reads h (.tail _ (.head _)))
end Go.Proofs.YtacffjkhbajgkaaDoor
