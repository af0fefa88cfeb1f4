/- The laws' eqColumn, eqColumnS, eqTable. -/
import Derived.Test.YtgeegbbcjdlkbaaGreatDoorCols
import Derived.Deep.RegionWith
namespace Go.Proofs.YtgeegbbcjdlkbaaGreatDoor
open Go.RowKit Go.ChangeShapes
set_option linter.unusedSimpArgs false
set_option linter.unusedVariables false
set_option maxRecDepth 100000

theorem bytes_inj {n m : ByteArray} (h : n.toList = m.toList) : n = m := by
  rw [ByteArray.toList_eq, ByteArray.toList_eq] at h
  exact ByteArray.ext (Array.toList_inj.1 h)

theorem cols_eq_step {cs ds : List Col} {k : Nat} (h : cs.take k = ds.take k) (hl : k < cs.length) (hm : k < ds.length) (he : cs[k] = ds[k]) : cs.take (k + 1) = ds.take (k + 1) := by
  rw [List.take_succ_eq_append_getElem hl, List.take_succ_eq_append_getElem hm, h, he]

end Go.Proofs.YtgeegbbcjdlkbaaGreatDoor
