/- Layer 26: the chapter's example; which inputs are gone through. -/
import Derived.Test.YtaknladkodibaaaGreatDoorMgQ12822
import Derived.Lib.SmallJoins
namespace Go.Proofs.YtaknladkodibaaaGreatDoor
open Go.RowKit
attribute [local go_sem ↓] Go.wp_at_zero Go.wp_at_succ

theorem Cells.of_block {w : World} {b : Nat} {B : Nat} {cs : Array Value} {t : TypeId} {xs : List Value} (e : cs.toList = xs) (h : w.heap[b]? = some (.cells cs t (0, 0))) (hB : b < B := by omega) : Cells w B (some ⟨b, 0, none⟩) xs := fun _ => by
  refine ⟨b, 0, rfl, hB, fun j u hj => ?_⟩
  rw [Nat.zero_add, cell_of_row w b j _ _ _ h, ← Array.getElem?_toList, e]
  exact hj
theorem lives26_sum : 0 + (22 + (⟨#[97]⟩ : ByteArray).size + cutC 3) = 26 := by decide
set_option maxHeartbeats 800000 in
theorem lives26_any (w : World) : Calls Tryz.prog 23 #[] w fun e w' => e = .returned (.bool true) ∧ Below w.heap.size w w' := by
  have HL1 : Hid (Led (w.alloc (.cells #[.int .i64 0] 59)) w.heap.size 0) := heap_alloc_new w _
  have HB1 := Lib.hid ((Below.refl w.heap.size w).alloc (Nat.le_refl _) (.cells #[.int .i64 0] 59))
  go_enter Tryz.func23, Tryz.ntmps23
  go_wp2_with (first
    | (go_at_call 26; refine (put26_any w.heap.size 0 ⟨#[97]⟩ 3 _ HL1.out (by omega) (by decide)).mono ?_; rintro e w2 ⟨rfl, h1, h2⟩; rw [lives26_sum] at h1; have HL2 := Lib.hid h1; have HB2 := Lib.hid (h2.below HB1.out HB1.out.size (fun k hk => Nat.le_of_eq (Eq.symm hk))); clear h1 h2; have kc := fun (C : Array Value) (n k : Nat) => Joins.run_convert_bytes_const_at (P := Tryz.prog) w2 25 5 C n k w2.heap.size rfl Tryz.underlying25 Tryz.underlying5)
    | (go_at_call 28; refine (issued_any w.heap.size 26 _ HL2.out).mono ?_; rintro e w' ⟨rfl, rfl⟩))
  have HB3 := Lib.hid ((HB2.out.alloc HB2.out.size (.cells #[.int .u8 97, .int .u8 98, .int .u8 99] 5 (3, 4))).alloc (Nat.le_trans HB2.out.size (by simp)) (.cells #[.string ⟨#[97]⟩, .slice (some ⟨w2.heap.size, 0, none⟩) 3 3] 104))
  have HL3 := Lib.hid ((HL2.out.alloc (.cells #[.int .u8 97, .int .u8 98, .int .u8 99] 5 (3, 4))).alloc (.cells #[.string ⟨#[97]⟩, .slice (some ⟨w2.heap.size, 0, none⟩) 3 3] 104))
  have HC3 : Hid (Cells ((w2.alloc (.cells #[.int .u8 97, .int .u8 98, .int .u8 99] 5 (3, 4))).alloc (.cells #[.string ⟨#[97]⟩, .slice (some ⟨w2.heap.size, 0, none⟩) 3 3] 104)) (w2.heap.size + 2) (some ⟨w2.heap.size + 1, 0, none⟩) ([(⟨⟨#[97]⟩, some ⟨w2.heap.size, 0, none⟩, 3, 3⟩ : LdF)].map LdF.cells).flatten) := Cells.of_block (cs := #[.string ⟨#[97]⟩, .slice (some ⟨w2.heap.size, 0, none⟩) 3 3]) (t := 104) rfl (by have := heap_alloc_new (w2.alloc (.cells #[.int .u8 97, .int .u8 98, .int .u8 99] 5 (3, 4))) (.cells #[.string ⟨#[97]⟩, .slice (some ⟨w2.heap.size, 0, none⟩) 3 3] 104); simpa using this)
  have HBD := Lib.hid (bound_any w.heap.size 26 (some ⟨w2.heap.size + 1, 0, none⟩) 1 1 [⟨⟨#[97]⟩, some ⟨w2.heap.size, 0, none⟩, 3, 3⟩] _ _ HL3.out (by omega) rfl (by omega) (by show 18 + 1 + 0 ≤ _; omega) HC3.out (by simp))
  go_wp2_with (first
    | (go_at_call 60; refine HBD.out.mono ?_; rintro e w4 ⟨rfl, hb⟩; have HB4 := Lib.hid (HB3.out.trans (hb.mono HB3.out.size)); clear hb))
  go_ret
  exact ⟨rfl, HB4.out⟩

end Go.Proofs.YtaknladkodibaaaGreatDoor
