/- Layer 25: bytes.Clone; model.Find. -/
import Derived.Test.YtfnkbpcimbldbaaDoorMgQ32419
import Derived.Laws.Cover3
namespace Go.Proofs.YtfnkbpcimbldbaaDoor
open Go.RowKit

theorem sliceNil_run {P : Program} (w : World) (t e : TypeId) (a : Option Addr) (l c : Nat) (h : P.underlying t = some (.slice e)) : (binOp .eql t (.slice a l c) (.slice none 0 0)).run P w = .ok (.bool a.isNone) w := by
  simp only [binOp]
  simp [run_equal_slice_nil w t e a l c h]
theorem byteElemF : Elem Tryd.prog 30 5 (.int .u8 0) 1 1 := Elem.of Tryd.underlying30 (by kernel_rfl) rfl (by omega)
theorem byteCells_oneF (bs : List UInt8) : ∀ u ∈ byteCells bs, u.oneCell' = true := fun u hu => by
  unfold byteCells at hu
  obtain ⟨x, _, rfl⟩ := List.mem_map.1 hu
  rfl
set_option maxRecDepth 100000 in
set_option maxHeartbeats 1000000 in
theorem cloneB_any (A : Option Addr) (l c : Nat) (bs : List UInt8) (B : Nat) (w : World) (hl : bs.length = l) (hm : l ≤ 1000000) (hb : Bytes w B A bs) :
    Calls Tryd.prog 27 #[.slice A l c] w fun e w' => ∃ A' c', e = .returned (.slice A' l c') ∧ w'.ownsRow w.heap.size 5 1 (.slice A' l c') l (byteCells bs) ∧ Below w.heap.size w w' := by
  cases A with
  | none =>
    have h0 : bs = [] := by
      cases bs with
      | nil => rfl
      | cons x t => obtain ⟨b, o, e, _⟩ := hb (by unfold byteCells; simp); cases e
    subst h0
    obtain rfl : l = 0 := hl.symm
    have hq : ∀ V, (binOp .eql 30 (.slice none 0 c) (.slice none 0 0)).run Tryd.prog V = .ok (.bool true) V := fun V => sliceNil_run V _ _ _ _ _ Tryd.underlying30
    clear hb hl
    go_enter Tryd.func27, Tryd.ntmps27
    go_wp2
    go_ret
    exact ⟨none, 0, rfl, World.ownsRow_nil _ _ _ _, Below.refl _ _⟩
  | some a =>
    obtain ⟨w1, hw1⟩ : ∃ w1, w.alloc (.cells #[] 5) = w1 := ⟨_, rfl⟩
    have HB1 : Hid (Below w.heap.size w w1) := by show Below _ _ _; rw [← hw1]; exact (Below.refl _ w).alloc (Nat.le_refl _) _
    have HO1 : Hid (w1.ownsRow w.heap.size 5 1 (.slice (some ⟨w.heap.size, 0, none⟩) 0 0) 0 []) := ⟨rfl, .inr ⟨w.heap.size, 0, #[], rfl, Nat.le_refl _, by rw [← hw1]; exact heap_alloc_new w _, Nat.le_refl _, by unfold maxLen; omega, rfl, rfl⟩⟩
    have hB : Bytes w w.heap.size (some a) bs := fun hp => by
      obtain ⟨b, o, e, hlt, hc⟩ := hb hp
      refine ⟨b, o, e, ?_, hc⟩
      have := hc 0 _ (List.getElem?_eq_getElem hp)
      exact World.block_lt_of_cell? w _ this
    have HC1 := Lib.hid (hB.below HB1.out (Nat.le_refl _))
    have HL : Hid ((byteCells bs).length = l * 1) := by show _ = _; unfold byteCells; rw [List.length_map, hl, Nat.mul_one]
    have hz := HB1.out.size
    have hq : ∀ V, (binOp .eql 30 (.slice (some a) l c) (.slice none 0 0)).run Tryd.prog V = .ok (.bool false) V := fun V => sliceNil_run V _ _ _ _ _ Tryd.underlying30
    clear hb hB hl
    go_enter Tryd.func27, Tryd.ntmps27
    go_wp2_with (at_builtin; go_must (skip; refine wpList_app w1 byteElemF rfl (.tmp 5) (.tmp 6) rfl w.heap.size (.slice (some ⟨w.heap.size, 0, none⟩) 0 0) 0 [] rfl HO1.out w.heap.size (some a) l c (byteCells bs) rfl HL.out HC1.out (byteCells_oneF bs) (by unfold maxLen; omega) (by omega) hz ?_; intro A3 c3 w3 hA; have HA := Lib.hid hA; clear hA))
    go_ret
    have ho := HA.out.own
    rw [Nat.zero_add, List.nil_append] at ho
    exact ⟨A3, c3, by simp, ho, HA.out.below HB1.out HB1.out.size (fun q hq => (HO1.out.lt q hq).1)⟩
end Go.Proofs.YtfnkbpcimbldbaaDoor
/- Layer 25: the reference's Without. -/
namespace Go.Proofs.YtfnkbpcimbldbaaDoor
open Go.RowKit

theorem fiCells_snoc (l : List Fi) (x : Fi) : fiCells (l ++ [x]) = fiCells l ++ x.cells := by unfold fiCells; simp
theorem fileElem : Elem Tryd.prog 22 32 (.agg #[.string ⟨#[]⟩, .slice none 0 0]) 2 40 := Elem.of Tryd.underlying22 (by kernel_rfl) (by kernel_rfl) (by omega)
end Go.Proofs.YtfnkbpcimbldbaaDoor
