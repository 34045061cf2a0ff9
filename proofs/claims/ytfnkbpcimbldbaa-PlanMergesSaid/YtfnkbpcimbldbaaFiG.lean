/- Layer 25: slices.Grow of nothing, slices.Concat of rows of files. -/
import Derived.Test.YtfnkbpcimbldbaaFiW
import Derived.Test.YtfnkbpcimbldbaaRowK
import Derived.Lib.AppendZerosOnto
namespace Go.Proofs.Ytfnkbpcimbldbaa
open Go.RowKit

theorem fileZero : (Try.prog.info? 33).map (fun i => (i.zero, i.size, i.bytes)) = some (some (.agg #[.string ⟨#[]⟩, .slice none 0 0]), 2, 40) := by kernel_rfl
/-- A row in memory. -/
structure Rw where
  ad : Option Addr
  len : Nat
  cp : Nat
  xs : List Value
def Rw.val (r : Rw) : Value := .slice r.ad r.len r.cp
def sumR (rs : List Rw) : Nat := (rs.map Rw.len).sum
theorem sumR_take {rs : List Rw} {k : Nat} {r : Rw} (h : rs[k]? = some r) : sumR (rs.take (k + 1)) = sumR (rs.take k) + r.len := by
  unfold sumR
  rw [List.take_add_one, h, List.map_append, List.sum_append]
  simp
theorem sumR_le (rs : List Rw) (k : Nat) : sumR (rs.take k) ≤ sumR rs := by
  conv => rhs; rw [← List.take_append_drop k rs]
  unfold sumR
  rw [List.map_append, List.sum_append]
  omega
theorem flatR_take {rs : List Rw} {k : Nat} {r : Rw} (h : rs[k]? = some r) : ((rs.take (k + 1)).map Rw.xs).flatten = ((rs.take k).map Rw.xs).flatten ++ r.xs := by
  rw [List.take_add_one, h]
  simp
end Go.Proofs.Ytfnkbpcimbldbaa
