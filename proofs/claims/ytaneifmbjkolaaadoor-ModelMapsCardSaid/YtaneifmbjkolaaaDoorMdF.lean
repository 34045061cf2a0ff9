/- Layer 25: what a model of nothing takes. -/
import Derived.Test.YtaneifmbjkolaaaDoorMdN
import Derived.Deep.RegionHeld3
namespace Go.Proofs.YtaneifmbjkolaaaDoor
open Go.RowKit

def Sf7 (p : Nat) (V : World) : Prop := V.cell? ⟨p, 0, none⟩ = some (.int .i64 2) ∧ V.cell? ⟨p, 1, none⟩ = some (.string ⟨#[]⟩) ∧ V.cell? ⟨p, 2, none⟩ = some (.slice none 0 0) ∧ V.cell? ⟨p, 3, none⟩ = some (.int .i64 0) ∧ V.cell? ⟨p, 4, none⟩ = some (.slice none 0 0) ∧ V.cell? ⟨p, 5, none⟩ = some (.int .i64 0) ∧ V.cell? ⟨p, 6, none⟩ = some (.int .u8 0) ∧ V.cell? ⟨p + 1, 0, none⟩ = some (.int .i64 7)
set_option maxRecDepth 100000 in
set_option maxHeartbeats 1000000 in
theorem fits25_7 (mb sb : Nat) (w : World) (h : MB w mb sb) : Calls Tryd.prog 31 #[.pointer (some ⟨mb, 0, none⟩), .agg #[.int .i64 2, .string ⟨#[]⟩, .slice none 0 0, .int .i64 0, .slice none 0 0, .int .i64 0, .int .u8 0], .agg #[.int .i64 7, .slice none 0 0, .int .i64 0, .slice none 0 0, .slice none 0 0, .bool false, .bool false]] w fun e w' => e = .returned (.bool true) ∧ Below w.heap.size w w' := by
  obtain ⟨p, hp⟩ : ∃ p, w.heap.size = p := ⟨_, rfl⟩
  have HP := Lib.hid hp
  go_enter Tryd.func31, Tryd.ntmps31
  go_upto_region 2 with fail
  obtain ⟨W3, hW3⟩ : ∃ W3, ((w.alloc (.cells #[.int .i64 2, .string ⟨#[]⟩, .slice none 0 0, .int .i64 0, .slice none 0 0, .int .i64 0, .int .u8 0] 44)).alloc (.cells #[.int .i64 7, .slice none 0 0, .int .i64 0, .slice none 0 0, .slice none 0 0, .bool false, .bool false] 48)).alloc (.cells #[.int .i64 7, .slice none 0 0, .int .i64 0, .slice none 0 0, .slice none 0 0, .bool false, .bool false] 48) = W3 := ⟨_, rfl⟩
  have HX1 : Hid (W3.heap[p]? = some (.cells #[.int .i64 2, .string ⟨#[]⟩, .slice none 0 0, .int .i64 0, .slice none 0 0, .int .i64 0, .int .u8 0] 44 (0, 0))) := by
    show _ = _
    rw [← hW3, ← hp]
    exact (Below.heap_alloc _ _ _ (by simp; omega)).trans ((Below.heap_alloc _ _ _ (by simp)).trans (heap_alloc_new w _))
  have HX2 : Hid (W3.heap[p + 1]? = some (.cells #[.int .i64 7, .slice none 0 0, .int .i64 0, .slice none 0 0, .slice none 0 0, .bool false, .bool false] 48 (0, 0))) := by
    show _ = _
    have h1 := heap_alloc_new (w.alloc (.cells #[.int .i64 2, .string ⟨#[]⟩, .slice none 0 0, .int .i64 0, .slice none 0 0, .int .i64 0, .int .u8 0] 44)) (.cells #[.int .i64 7, .slice none 0 0, .int .i64 0, .slice none 0 0, .slice none 0 0, .bool false, .bool false] 48)
    rw [World.size_alloc, hp] at h1
    rw [← hW3]
    exact (Below.heap_alloc _ _ _ (by simp; omega)).trans h1
  have HX3 : Hid (W3.heap[p + 2]? = some (.cells #[.int .i64 7, .slice none 0 0, .int .i64 0, .slice none 0 0, .slice none 0 0, .bool false, .bool false] 48 (0, 0))) := by
    show _ = _
    have h1 := heap_alloc_new ((w.alloc (.cells #[.int .i64 2, .string ⟨#[]⟩, .slice none 0 0, .int .i64 0, .slice none 0 0, .int .i64 0, .int .u8 0] 44)).alloc (.cells #[.int .i64 7, .slice none 0 0, .int .i64 0, .slice none 0 0, .slice none 0 0, .bool false, .bool false] 48)) (.cells #[.int .i64 7, .slice none 0 0, .int .i64 0, .slice none 0 0, .slice none 0 0, .bool false, .bool false] 48)
    rw [World.size_alloc, World.size_alloc, hp] at h1
    rw [← hW3]
    exact h1
  have HB3 : Hid (Below w.heap.size w W3) := by show Below _ _ _; rw [← hW3]; exact (((Below.refl _ w).alloc (Nat.le_refl _) _).alloc (by simp) _).alloc (by simp; omega) _
  have hm := h.below HB3.out
  have HE := Lib.hid (errors25_any mb sb W3.drew ⟨hm.mod, hm.st, hm.ne⟩)
  have HZ3 : Hid (p + 3 ≤ W3.heap.size) := by show _ ≤ _; rw [← hW3]; simp; omega
  rw [hW3]
  clear hW3 h hm hp
  have HSF : Hid (∀ V, Below W3.heap.size W3 V → Sf7 p V) := fun V hV => by
    have h1 := (hV.block p (by have := HZ3.out; omega)).trans HX1.out
    have h2 := (hV.block (p + 1) (by have := HZ3.out; omega)).trans HX2.out
    exact ⟨cell_of_row V p 0 _ _ _ h1, cell_of_row V p 1 _ _ _ h1, cell_of_row V p 2 _ _ _ h1, cell_of_row V p 3 _ _ _ h1, cell_of_row V p 4 _ _ _ h1, cell_of_row V p 5 _ _ _ h1, cell_of_row V p 6 _ _ _ h1, cell_of_row V (p + 1) 0 _ _ _ h2⟩
  have a5 : W3.cell? ⟨p + 1, 5, none⟩ = some (.bool false) := cell_of_row W3 (p + 1) 5 _ _ _ HX2.out
  have S6 := HSF.out W3.drew (Below.refl _ W3).drew
  unfold Sf7 at S6
  go_upto_region 5 with fail
  go_region_held3 (fun V => V.cell? ⟨p, 0, none⟩ = some (.int .i64 2) ∧ V.cell? ⟨p, 1, none⟩ = some (.string ⟨#[]⟩) ∧ V.cell? ⟨p, 2, none⟩ = some (.slice none 0 0) ∧ V.cell? ⟨p, 3, none⟩ = some (.int .i64 0) ∧ V.cell? ⟨p, 4, none⟩ = some (.slice none 0 0) ∧ V.cell? ⟨p, 5, none⟩ = some (.int .i64 0) ∧ V.cell? ⟨p, 6, none⟩ = some (.int .u8 0) ∧ V.cell? ⟨p + 1, 0, none⟩ = some (.int .i64 7)) (first | exact S6 | exact S7)
    ((first
      | (go_at_call 40; refine HE.out.mono ?_; rintro e w5 ⟨b, o, c, rfl, hc, hbl, hb⟩; have HC := Lib.hid hc; have HB35 : Hid (Below W3.heap.size W3 w5) := (Below.refl _ W3).drew.trans hb; have S7 := HSF.out w5 HB35.out; unfold Sf7 at S7; clear hc hbl hb)
      | (go_at_call 39; refine (contains25_any b o c 7 w5 HC.out (by omega)).mono ?_; rintro e w6 ⟨rfl, rfl⟩)))
  have HX5 := (HB35.out.block (p + 1) (by have := HZ3.out; omega)).trans HX2.out
  have HX6 := (HB35.out.block (p + 1 + 1) (by have := HZ3.out; omega)).trans HX3.out
  have HX4 := (HB35.out.block p (by have := HZ3.out; omega)).trans HX1.out
  have HBF : Hid (Below w.heap.size w w5) := HB3.out.trans (HB35.out.mono HB3.out.size)
  have x0 := cell_of_row w5 (p + 1) 0 _ _ _ HX5
  have y0 := cell_of_row w5 (p + 1 + 1) 0 _ _ _ HX6
  have x1 := cell_of_row w5 (p + 1) 1 _ _ _ HX5
  have y1 := cell_of_row w5 (p + 1 + 1) 1 _ _ _ HX6
  have x2 := cell_of_row w5 (p + 1) 2 _ _ _ HX5
  have y2 := cell_of_row w5 (p + 1 + 1) 2 _ _ _ HX6
  have x3 := cell_of_row w5 (p + 1) 3 _ _ _ HX5
  have y3 := cell_of_row w5 (p + 1 + 1) 3 _ _ _ HX6
  have x4 := cell_of_row w5 (p + 1) 4 _ _ _ HX5
  have y4 := cell_of_row w5 (p + 1 + 1) 4 _ _ _ HX6
  have x5 := cell_of_row w5 (p + 1) 5 _ _ _ HX5
  have y5 := cell_of_row w5 (p + 1 + 1) 5 _ _ _ HX6
  have x6 := cell_of_row w5 (p + 1) 6 _ _ _ HX5
  have y6 := cell_of_row w5 (p + 1 + 1) 6 _ _ _ HX6
  have z0 := cell_of_row w5 p 0 _ _ _ HX4
  clear HX4 HX5 HX6 S6 S7 a5
  have HE1 := Lib.hid equal25_nil
  have HE2 := Lib.hid sequal25_nil
  have HE3 := Lib.hid same25_nil
  go_wp2_with ((first
      | (go_at_call 24; refine (HE1.out _).mono ?_; rintro e w6 ⟨rfl, rfl⟩)
      | (go_at_call 43; refine (HE2.out _).mono ?_; rintro e w6 ⟨rfl, rfl⟩)
      | (go_at_call 8; refine (HE3.out _).mono ?_; rintro e w6 ⟨rfl, rfl⟩)))
  go_ret
  exact ⟨rfl, HBF.out⟩
def Sf0 (p : Nat) (V : World) : Prop := V.cell? ⟨p, 0, none⟩ = some (.int .i64 2) ∧ V.cell? ⟨p, 1, none⟩ = some (.string ⟨#[]⟩) ∧ V.cell? ⟨p, 2, none⟩ = some (.slice none 0 0) ∧ V.cell? ⟨p, 3, none⟩ = some (.int .i64 0) ∧ V.cell? ⟨p, 4, none⟩ = some (.slice none 0 0) ∧ V.cell? ⟨p, 5, none⟩ = some (.int .i64 0) ∧ V.cell? ⟨p, 6, none⟩ = some (.int .u8 0) ∧ V.cell? ⟨p + 1, 0, none⟩ = some (.int .i64 0)
set_option maxRecDepth 100000 in
set_option maxHeartbeats 1000000 in
theorem fits25_0 (mb sb : Nat) (w : World) (h : MB w mb sb) : Calls Tryd.prog 31 #[.pointer (some ⟨mb, 0, none⟩), .agg #[.int .i64 2, .string ⟨#[]⟩, .slice none 0 0, .int .i64 0, .slice none 0 0, .int .i64 0, .int .u8 0], .agg #[.int .i64 0, .slice none 0 0, .int .i64 0, .slice none 0 0, .slice none 0 0, .bool false, .bool false]] w fun e w' => e = .returned (.bool false) ∧ Below w.heap.size w w' := by
  obtain ⟨p, hp⟩ : ∃ p, w.heap.size = p := ⟨_, rfl⟩
  have HP := Lib.hid hp
  go_enter Tryd.func31, Tryd.ntmps31
  go_upto_region 2 with fail
  obtain ⟨W3, hW3⟩ : ∃ W3, ((w.alloc (.cells #[.int .i64 2, .string ⟨#[]⟩, .slice none 0 0, .int .i64 0, .slice none 0 0, .int .i64 0, .int .u8 0] 44)).alloc (.cells #[.int .i64 0, .slice none 0 0, .int .i64 0, .slice none 0 0, .slice none 0 0, .bool false, .bool false] 48)).alloc (.cells #[.int .i64 0, .slice none 0 0, .int .i64 0, .slice none 0 0, .slice none 0 0, .bool false, .bool false] 48) = W3 := ⟨_, rfl⟩
  have HX1 : Hid (W3.heap[p]? = some (.cells #[.int .i64 2, .string ⟨#[]⟩, .slice none 0 0, .int .i64 0, .slice none 0 0, .int .i64 0, .int .u8 0] 44 (0, 0))) := by
    show _ = _
    rw [← hW3, ← hp]
    exact (Below.heap_alloc _ _ _ (by simp; omega)).trans ((Below.heap_alloc _ _ _ (by simp)).trans (heap_alloc_new w _))
  have HX2 : Hid (W3.heap[p + 1]? = some (.cells #[.int .i64 0, .slice none 0 0, .int .i64 0, .slice none 0 0, .slice none 0 0, .bool false, .bool false] 48 (0, 0))) := by
    show _ = _
    have h1 := heap_alloc_new (w.alloc (.cells #[.int .i64 2, .string ⟨#[]⟩, .slice none 0 0, .int .i64 0, .slice none 0 0, .int .i64 0, .int .u8 0] 44)) (.cells #[.int .i64 0, .slice none 0 0, .int .i64 0, .slice none 0 0, .slice none 0 0, .bool false, .bool false] 48)
    rw [World.size_alloc, hp] at h1
    rw [← hW3]
    exact (Below.heap_alloc _ _ _ (by simp; omega)).trans h1
  have HX3 : Hid (W3.heap[p + 2]? = some (.cells #[.int .i64 0, .slice none 0 0, .int .i64 0, .slice none 0 0, .slice none 0 0, .bool false, .bool false] 48 (0, 0))) := by
    show _ = _
    have h1 := heap_alloc_new ((w.alloc (.cells #[.int .i64 2, .string ⟨#[]⟩, .slice none 0 0, .int .i64 0, .slice none 0 0, .int .i64 0, .int .u8 0] 44)).alloc (.cells #[.int .i64 0, .slice none 0 0, .int .i64 0, .slice none 0 0, .slice none 0 0, .bool false, .bool false] 48)) (.cells #[.int .i64 0, .slice none 0 0, .int .i64 0, .slice none 0 0, .slice none 0 0, .bool false, .bool false] 48)
    rw [World.size_alloc, World.size_alloc, hp] at h1
    rw [← hW3]
    exact h1
  have HB3 : Hid (Below w.heap.size w W3) := by show Below _ _ _; rw [← hW3]; exact (((Below.refl _ w).alloc (Nat.le_refl _) _).alloc (by simp) _).alloc (by simp; omega) _
  have hm := h.below HB3.out
  have HE := Lib.hid (errors25_any mb sb W3.drew ⟨hm.mod, hm.st, hm.ne⟩)
  have HZ3 : Hid (p + 3 ≤ W3.heap.size) := by show _ ≤ _; rw [← hW3]; simp; omega
  rw [hW3]
  clear hW3 h hm hp
  have HSF : Hid (∀ V, Below W3.heap.size W3 V → Sf0 p V) := fun V hV => by
    have h1 := (hV.block p (by have := HZ3.out; omega)).trans HX1.out
    have h2 := (hV.block (p + 1) (by have := HZ3.out; omega)).trans HX2.out
    exact ⟨cell_of_row V p 0 _ _ _ h1, cell_of_row V p 1 _ _ _ h1, cell_of_row V p 2 _ _ _ h1, cell_of_row V p 3 _ _ _ h1, cell_of_row V p 4 _ _ _ h1, cell_of_row V p 5 _ _ _ h1, cell_of_row V p 6 _ _ _ h1, cell_of_row V (p + 1) 0 _ _ _ h2⟩
  have a5 : W3.cell? ⟨p + 1, 5, none⟩ = some (.bool false) := cell_of_row W3 (p + 1) 5 _ _ _ HX2.out
  have S6 := HSF.out W3.drew (Below.refl _ W3).drew
  unfold Sf0 at S6
  go_upto_region 5 with fail
  go_region_held3 (fun V => V.cell? ⟨p, 0, none⟩ = some (.int .i64 2) ∧ V.cell? ⟨p, 1, none⟩ = some (.string ⟨#[]⟩) ∧ V.cell? ⟨p, 2, none⟩ = some (.slice none 0 0) ∧ V.cell? ⟨p, 3, none⟩ = some (.int .i64 0) ∧ V.cell? ⟨p, 4, none⟩ = some (.slice none 0 0) ∧ V.cell? ⟨p, 5, none⟩ = some (.int .i64 0) ∧ V.cell? ⟨p, 6, none⟩ = some (.int .u8 0) ∧ V.cell? ⟨p + 1, 0, none⟩ = some (.int .i64 0)) (first | exact S6 | exact S7)
    ((first
      | (go_at_call 40; refine HE.out.mono ?_; rintro e w5 ⟨b, o, c, rfl, hc, hbl, hb⟩; have HC := Lib.hid hc; have HB35 : Hid (Below W3.heap.size W3 w5) := (Below.refl _ W3).drew.trans hb; have S7 := HSF.out w5 HB35.out; unfold Sf0 at S7; clear hc hbl hb)
      | (go_at_call 39; refine (contains25_any b o c 0 w5 HC.out (by omega)).mono ?_; rintro e w6 ⟨rfl, rfl⟩)))
  have HX5 := (HB35.out.block (p + 1) (by have := HZ3.out; omega)).trans HX2.out
  have HX6 := (HB35.out.block (p + 1 + 1) (by have := HZ3.out; omega)).trans HX3.out
  have HX4 := (HB35.out.block p (by have := HZ3.out; omega)).trans HX1.out
  have HBF : Hid (Below w.heap.size w w5) := HB3.out.trans (HB35.out.mono HB3.out.size)
  have x0 := cell_of_row w5 (p + 1) 0 _ _ _ HX5
  have y0 := cell_of_row w5 (p + 1 + 1) 0 _ _ _ HX6
  have x1 := cell_of_row w5 (p + 1) 1 _ _ _ HX5
  have y1 := cell_of_row w5 (p + 1 + 1) 1 _ _ _ HX6
  have x2 := cell_of_row w5 (p + 1) 2 _ _ _ HX5
  have y2 := cell_of_row w5 (p + 1 + 1) 2 _ _ _ HX6
  have x3 := cell_of_row w5 (p + 1) 3 _ _ _ HX5
  have y3 := cell_of_row w5 (p + 1 + 1) 3 _ _ _ HX6
  have x4 := cell_of_row w5 (p + 1) 4 _ _ _ HX5
  have y4 := cell_of_row w5 (p + 1 + 1) 4 _ _ _ HX6
  have x5 := cell_of_row w5 (p + 1) 5 _ _ _ HX5
  have y5 := cell_of_row w5 (p + 1 + 1) 5 _ _ _ HX6
  have x6 := cell_of_row w5 (p + 1) 6 _ _ _ HX5
  have y6 := cell_of_row w5 (p + 1 + 1) 6 _ _ _ HX6
  have z0 := cell_of_row w5 p 0 _ _ _ HX4
  clear HX4 HX5 HX6 S6 S7 a5
  go_wp2
  go_ret
  exact ⟨rfl, HBF.out⟩
end Go.Proofs.YtaneifmbjkolaaaDoor
