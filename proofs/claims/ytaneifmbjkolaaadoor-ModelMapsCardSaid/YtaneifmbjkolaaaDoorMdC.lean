/- Layer 25: Can of a model of nothing; what no model answers. -/
import Derived.Test.YtaneifmbjkolaaaDoorMdS
namespace Go.Proofs.YtaneifmbjkolaaaDoor
open Go.RowKit

set_option maxHeartbeats 1000000 in
theorem can25_any (mb sb : Nat) (w : World) (h : MB w mb sb) : Calls Tryd.prog 20 #[.pointer (some ⟨mb, 0, none⟩), .agg #[.bool true, .slice none 0 0]] w fun e w' => e = .returned (.bool false) ∧ Below w.heap.size w w' := by
  go_enter Tryd.func20, Tryd.ntmps20
  obtain ⟨W1, hW1⟩ : ∃ W1, w.alloc (.cells #[.bool true, .slice none 0 0] 52) = W1 := ⟨_, rfl⟩
  have HB1 : Hid (Below w.heap.size w W1) := by show Below _ _ _; rw [← hW1]; exact (Below.refl _ w).alloc (Nat.le_refl _) _
  have hx : W1.heap[w.heap.size]? = some (.cells #[.bool true, .slice none 0 0] 52 (0, 0)) := by rw [← hW1]; exact heap_alloc_new w _
  have HS : Hid (w.heap.size < W1.heap.size) := by show _ < _; rw [← hW1]; simp
  have hm := h.below HB1.out
  have b0 := cell_of_row W1 w.heap.size 0 _ _ _ hx
  have HX := Lib.hid hx
  have HM := Lib.hid hm
  have m0 := cell_of_row W1 mb 0 _ _ _ hm.mod
  have s0 := cell_of_row W1 sb 0 _ _ _ hm.st
  have s1 := cell_of_row W1 sb 1 _ _ _ hm.st
  clear hm h hx
  go_wp2
  clear hW1
  go_step3
  go_wp2
  go_step3
  go_wp2
  go_loopg [5, 15] 1 (fun gk s5 i wr => (gk = 1 ∧ s5 = .bool false ∧ i = .int .i64 0 ∧ wr = W1) ∨ (gk = 0 ∧ s5 = .bool false ∧ i = .int .i64 1 ∧ Below W1.heap.size W1 wr))
  case atStart => exact .inl ⟨rfl, rfl, rfl, rfl⟩
  case round =>
    rcases hrel with ⟨rfl, rfl, rfl, rfl⟩ | ⟨rfl, rfl, rfl, hb⟩
    · have e0 := cell_of_row (wr.alloc (.cells #[.bool false, .slice none 0 0] 52)) w.heap.size 0 _ _ _ ((Below.heap_alloc wr _ _ HS.out).trans HX.out)
      go_wp2
      go_roundg 0
      case measure => omega
      case rel => exact .inr ⟨rfl, rfl, by go_num, (Below.refl _ wr).alloc (Nat.le_refl _) _⟩
    · have HB := Lib.hid hb
      clear hb
      go_wp2
      (first | go_ret | (rw [Exit.noGoto_ret]; go_ret))
      exact ⟨rfl, HB1.out.trans (HB.out.mono HB1.out.size)⟩
set_option maxHeartbeats 1000000 in
theorem can25_nil (v : Array Value) (w : World) : Calls Tryd.prog 20 #[.pointer none, .agg v] w fun e w' => e = .returned (.bool false) ∧ Below w.heap.size w w' := by
  go_enter Tryd.func20, Tryd.ntmps20
  go_wp2
  go_step3
  go_wp2
  (first | go_ret | (rw [Exit.noGoto_ret]; go_ret))
  exact ⟨rfl, (Below.refl _ w).alloc (Nat.le_refl _) _⟩
set_option maxHeartbeats 1000000 in
theorem step25_nil (u v : Array Value) (w : World) : Calls Tryd.prog 19 #[.pointer none, .agg u, .agg v] w fun e w' => e = .returned (.bool false) ∧ Below w.heap.size w w' := by
  go_enter Tryd.func19, Tryd.ntmps19
  go_wp2
  go_ret
  exact ⟨rfl, ((Below.refl _ w).alloc (Nat.le_refl _) _).alloc (by simp) _⟩
end Go.Proofs.YtaneifmbjkolaaaDoor
