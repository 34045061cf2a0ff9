/- Layer 25: bytes.Clone; model.Find. -/
import Derived.Test.YtfnkbpcimbldbaaDoorMgQ14019
import Derived.Laws.Cover3
namespace Go.Proofs.YtfnkbpcimbldbaaDoor
open Go.RowKit

theorem sliceNil_run {P : Program} (w : World) (t e : TypeId) (a : Option Addr) (l c : Nat) (h : P.underlying t = some (.slice e)) : (binOp .eql t (.slice a l c) (.slice none 0 0)).run P w = .ok (.bool a.isNone) w := by
  simp only [binOp]
  simp [run_equal_slice_nil w t e a l c h]
theorem byteElemF : Elem Tryd.prog 30 5 (.int .u8 0) 1 1 := Elem.of Tryd.underlying30 (by kernel_rfl) rfl (by omega)
theorem byteCells_oneF (bs : List UInt8) : ∀ u ∈ byteCells bs, u.oneCell' = true := fun u hu => by
  unfold byteCells at hu
  obtain ⟨x, _, rfl⟩ := List.mem_map.1 hu
  rfl
set_option maxRecDepth 100000 in
set_option maxHeartbeats 1000000 in
theorem cloneB_any (A : Option Addr) (l c : Nat) (bs : List UInt8) (B : Nat) (w : World) (hl : bs.length = l) (hm : l ≤ 1000000) (hb : Bytes w B A bs) :
    Calls Tryd.prog 27 #[.slice A l c] w fun e w' => ∃ A' c', e = .returned (.slice A' l c') ∧ w'.ownsRow w.heap.size 5 1 (.slice A' l c') l (byteCells bs) ∧ Below w.heap.size w w' := by
  cases A with
  | none =>
    have h0 : bs = [] := by
      cases bs with
      | nil => rfl
      | cons x t => obtain ⟨b, o, e, _⟩ := hb (by unfold byteCells; simp); cases e
    subst h0
    obtain rfl : l = 0 := hl.symm
    have hq : ∀ V, (binOp .eql 30 (.slice none 0 c) (.slice none 0 0)).run Tryd.prog V = .ok (.bool true) V := fun V => sliceNil_run V _ _ _ _ _ Tryd.underlying30
    clear hb hl
    go_enter Tryd.func27, Tryd.ntmps27
    go_wp2
    go_ret
    exact ⟨none, 0, rfl, World.ownsRow_nil _ _ _ _, Below.refl _ _⟩
  | some a =>
    obtain ⟨w1, hw1⟩ : ∃ w1, w.alloc (.cells #[] 5) = w1 := ⟨_, rfl⟩
    have HB1 : Hid (Below w.heap.size w w1) := by show Below _ _ _; rw [← hw1]; exact (Below.refl _ w).alloc (Nat.le_refl _) _
    have HO1 : Hid (w1.ownsRow w.heap.size 5 1 (.slice (some ⟨w.heap.size, 0, none⟩) 0 0) 0 []) := ⟨rfl, .inr ⟨w.heap.size, 0, #[], rfl, Nat.le_refl _, by rw [← hw1]; exact heap_alloc_new w _, Nat.le_refl _, by unfold maxLen; omega, rfl, rfl⟩⟩
    have hB : Bytes w w.heap.size (some a) bs := fun hp => by
      obtain ⟨b, o, e, hlt, hc⟩ := hb hp
      refine ⟨b, o, e, ?_, hc⟩
      have := hc 0 _ (List.getElem?_eq_getElem hp)
      exact World.block_lt_of_cell? w _ this
    have HC1 := Lib.hid (hB.below HB1.out (Nat.le_refl _))
    have HL : Hid ((byteCells bs).length = l * 1) := by show _ = _; unfold byteCells; rw [List.length_map, hl, Nat.mul_one]
    have hz := HB1.out.size
    have hq : ∀ V, (binOp .eql 30 (.slice (some a) l c) (.slice none 0 0)).run Tryd.prog V = .ok (.bool false) V := fun V => sliceNil_run V _ _ _ _ _ Tryd.underlying30
    clear hb hB hl
    go_enter Tryd.func27, Tryd.ntmps27
    go_wp2_with (at_builtin; go_must (skip; refine wpList_app w1 byteElemF rfl (.tmp 5) (.tmp 6) rfl w.heap.size (.slice (some ⟨w.heap.size, 0, none⟩) 0 0) 0 [] rfl HO1.out w.heap.size (some a) l c (byteCells bs) rfl HL.out HC1.out (byteCells_oneF bs) (by unfold maxLen; omega) (by omega) hz ?_; intro A3 c3 w3 hA; have HA := Lib.hid hA; clear hA))
    go_ret
    have ho := HA.out.own
    rw [Nat.zero_add, List.nil_append] at ho
    exact ⟨A3, c3, by simp, ho, HA.out.below HB1.out HB1.out.size (fun q hq => (HO1.out.lt q hq).1)⟩
end Go.Proofs.YtfnkbpcimbldbaaDoor
/- Layer 25: the reference's Without. -/
namespace Go.Proofs.YtfnkbpcimbldbaaDoor
open Go.RowKit

theorem fiCells_snoc (l : List Fi) (x : Fi) : fiCells (l ++ [x]) = fiCells l ++ x.cells := by unfold fiCells; simp
theorem fileElem : Elem Tryd.prog 22 32 (.agg #[.string ⟨#[]⟩, .slice none 0 0]) 2 40 := Elem.of Tryd.underlying22 (by kernel_rfl) (by kernel_rfl) (by omega)
set_option maxRecDepth 100000 in
set_option maxHeartbeats 1000000 in
theorem refWithout25_any (A : Option Addr) (l c : Nat) (ms : List Fi) (s : ByteArray) (B : Nat) (w : World) (hl : ms.length = l) (hm : l ≤ 1000000) (hb : Cells w B A (fiCells ms)) (hB : B ≤ w.heap.size) :
    Calls Tryd.prog 33 #[.slice A l c, .string s] w fun e w' => ∃ A' c', e = .returned (.slice A' (outK Fi.nm ms s).length c') ∧ w'.ownsRow w.heap.size 32 2 (.slice A' (outK Fi.nm ms s).length c') (outK Fi.nm ms s).length (fiCells (outK Fi.nm ms s)) ∧ Below w.heap.size w w' := by
  have HC := Lib.hid hb
  have HFL := Lib.hid (fi_len ms)
  have HL := Lib.hid hl
  have HB := Lib.hid hB
  clear hb hl hB
  go_enter Tryd.func33, Tryd.ntmps33
  go_wp2
  go_loopg [5, 6] l (fun gk v i wr => ∃ k : Nat, ∃ os : List Fi, k + gk = l ∧ i = .int .i64 k ∧ os = outK Fi.nm (ms.take k) s ∧ wr.ownsRow w.heap.size 32 2 v os.length (fiCells os) ∧ Below w.heap.size w wr)
  case atStart => exact ⟨0, [], by omega, rfl, rfl, World.ownsRow_nil _ _ _ _, Below.refl _ _⟩
  case round =>
    obtain ⟨k, os, hk, rfl, hos, hown, hbel⟩ := hrel
    have HOWN := Lib.hid hown
    have HBL := Lib.hid hbel
    have HOS := Lib.hid hos
    clear hown hbel hos
    obtain ⟨Ak, ck, rfl⟩ := own_form' HOWN.out
    by_cases h : k < l
    · obtain ⟨x, hx⟩ : ∃ x, ms[k]? = some x := ⟨_, List.getElem?_eq_getElem (by have := HL.out; omega)⟩
      obtain ⟨b, o, rfl, hbB, hc⟩ := HC.out (by rw [HFL.out]; have := HL.out; omega)
      have hcw := fun j u hj => (HBL.out.cell (p := ⟨b, o + j, none⟩) (Nat.lt_of_lt_of_le hbB HB.out)).trans (hc j u hj); obtain ⟨c0, c1⟩ := fi_at hcw hx
      have HTK := Lib.hid (takeF_snoc hx)
      have hw1 : IntKind.i64.wrap ((k : Int) + 1) = (k : Int) + 1 := IntWalk.i64_in _ (by omega)
      obtain ⟨q, hq⟩ : ∃ q, (x.nm.toList == s.toList) = q := ⟨_, rfl⟩
      have HQ := Lib.hid hq
      have hq2 : (x.nm.toList = s.toList) = (q = true) := by rw [← hq, beq_iff_eq]
      have HOL : Hid (os.length ≤ k) := by
        show _ ≤ _
        rw [HOS.out]
        exact Nat.le_trans (List.length_filter_le _ _) (by rw [List.length_take]; omega)
      clear hcw hc hx
      cases q with
      | true =>
        simp only [eq_self, eq_iff_iff, iff_true] at hq2
        go_wp2
        go_roundg (gk - 1)
        case measure => omega
        case rel =>
          refine ⟨k + 1, os, by omega, by go_num, ?_, HOWN.out, HBL.out⟩
          rw [HTK.out, HOS.out]
          unfold outK
          rw [List.filter_append, List.filter_cons_of_neg (by simp [nmEq_of HQ.out]), List.filter_nil, List.append_nil]
      | false =>
        simp only [Bool.false_eq_true, eq_iff_iff, iff_false] at hq2
        have hz0 := HBL.out.size
        have hol := HOL.out
        go_wp2_with (at_builtin; go_must (skip; refine wpList_app1 _ fileElem rfl (.tmp 20) (.tmp 25) rfl w.heap.size (.slice Ak os.length ck) os.length _ rfl HOWN.out #[.string x.nm, .slice x.ad x.data.length x.cp] rfl rfl (by intro u hu; simp only [List.mem_cons, List.not_mem_nil, or_false] at hu; rcases hu with rfl | rfl <;> rfl) (by unfold maxLen; omega) (by omega) hz0 ?_; intro A3 c3 w3 hA; have HA := Lib.hid hA; clear hA))
        go_roundg (gk - 1)
        case measure => omega
        case rel =>
          have e : outK Fi.nm (ms.take (k + 1)) s = os ++ [x] := by
            rw [HTK.out, HOS.out]
            unfold outK
            rw [List.filter_append, List.filter_cons_of_pos (by simp [nmEq_not HQ.out]), List.filter_nil]
          have ho := HA.out.own
          refine ⟨k + 1, os ++ [x], by omega, by go_num, e.symm, ?_, HA.out.below HBL.out HBL.out.size (fun q hq => (HOWN.out.lt q hq).1)⟩
          rw [fiCells_snoc, List.length_append]
          exact ho
    · obtain rfl : k = l := by omega
      have HK : Hid (outK Fi.nm ms s = os) := by show _ = _; rw [HOS.out, List.take_of_length_le (by have := HL.out; omega)]
      go_wp2
      go_ret
      rw [HK.out]
      exact ⟨Ak, ck, rfl, HOWN.out, HBL.out⟩

end Go.Proofs.YtfnkbpcimbldbaaDoor
