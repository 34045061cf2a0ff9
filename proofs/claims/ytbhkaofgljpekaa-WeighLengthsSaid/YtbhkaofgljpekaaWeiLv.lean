/- Layer 7: lives. -/
import Derived.Test.YtbhkaofgljpekaaWeiLo
namespace Go.Proofs.Ytbhkaofgljpekaa
open Go.RowKit

theorem items112 : itemsW [1, 1, 2] = [(1, 0), (1, 1), (2, 2)] := by
  have h : itP [1, 1, 2] 3 = [(1, 0), (1, 1), (2, 2)] := by decide
  show sortW (itP [1, 1, 2] 3) = _
  rw [h]
  exact (sortW_uniq (List.Perm.refl _) (by decide)).symm
theorem lens112 : lensW [1, 1, 2] = [2, 2, 1] := by
  rw [lensW_many (by rw [items112]; decide), items112]
  decide
set_option maxHeartbeats 1000000 in
theorem lives7_any (w : World) : Calls Try.prog 8 #[] w fun e w' => e = .returned (.bool true) ∧ Below w.heap.size w w' := by
  obtain ⟨w1, hw1⟩ : ∃ w1, w.alloc (.cells #[.int .i64 1, .int .i64 1, .int .i64 2] 3) = w1 := ⟨_, rfl⟩
  have HL := Lib.hid (lengths_ok (some ⟨w.heap.size, 0, none⟩) 3 3 [1, 1, 2] w1.heap.size w1 rfl (by omega) (fun _ => ⟨w.heap.size, 0, rfl, by rw [← hw1]; simp, fun j u hu => by
    rw [← hw1, Nat.zero_add, cell_of_row _ _ _ _ _ _ (heap_alloc_new w _)]
    simpa [nCs] using hu⟩) (Nat.le_refl _) (by decide))
  rw [lens112] at HL
  have HB1 : Hid (Below w.heap.size w w1) := by show Below _ _ _; rw [← hw1]; exact (Below.refl _ _).alloc (Nat.le_refl _) _
  go_enter Try.func8, Try.ntmps8
  go_wp2_with (go_at_call 9; refine HL.out.mono ?_; rintro e w2 ⟨A2, c2, rfl, ho2, hb2⟩; have hcc := (cells_of_ownK ho2).2 (by simp [nCs]); obtain ⟨b, o, rfl, _, hcell⟩ := hcc; have x0 : w2.cell? ⟨b, o, none⟩ = some (.int .i64 2) := hcell 0 _ rfl; have x1 : w2.cell? ⟨b, o + 1, none⟩ = some (.int .i64 2) := hcell 1 _ rfl; have x2 : w2.cell? ⟨b, o + 2, none⟩ = some (.int .i64 1) := hcell 2 _ rfl; have HB2 := Lib.hid hb2; clear hb2 hcell ho2)
  go_ret
  exact ⟨rfl, HB1.out.trans (HB2.out.mono HB1.out.size)⟩
end Go.Proofs.Ytbhkaofgljpekaa
