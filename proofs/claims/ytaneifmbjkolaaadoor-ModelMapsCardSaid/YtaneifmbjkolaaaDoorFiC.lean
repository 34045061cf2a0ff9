/- Layer 25: bytes.Clone; model.Find. -/
import Derived.Test.YtaneifmbjkolaaaDoorFiB
import Derived.Laws.Cover3
namespace Go.Proofs.YtaneifmbjkolaaaDoor
open Go.RowKit

theorem sliceNil_run {P : Program} (w : World) (t e : TypeId) (a : Option Addr) (l c : Nat) (h : P.underlying t = some (.slice e)) : (binOp .eql t (.slice a l c) (.slice none 0 0)).run P w = .ok (.bool a.isNone) w := by
  simp only [binOp]
  simp [run_equal_slice_nil w t e a l c h]
theorem byteElemF : Elem Tryd.prog 23 5 (.int .u8 0) 1 1 := Elem.of Tryd.underlying23 (by kernel_rfl) rfl (by omega)
theorem byteCells_oneF (bs : List UInt8) : ∀ u ∈ byteCells bs, u.oneCell' = true := fun u hu => by
  unfold byteCells at hu
  obtain ⟨x, _, rfl⟩ := List.mem_map.1 hu
  rfl
set_option maxRecDepth 100000 in
set_option maxHeartbeats 1000000 in
theorem cloneB_any (A : Option Addr) (l c : Nat) (bs : List UInt8) (B : Nat) (w : World) (hl : bs.length = l) (hm : l ≤ 1000000) (hb : Bytes w B A bs) :
    Calls Tryd.prog 26 #[.slice A l c] w fun e w' => ∃ A' c', e = .returned (.slice A' l c') ∧ w'.ownsRow w.heap.size 5 1 (.slice A' l c') l (byteCells bs) ∧ Below w.heap.size w w' := by
  cases A with
  | none =>
    have h0 : bs = [] := by
      cases bs with
      | nil => rfl
      | cons x t => obtain ⟨b, o, e, _⟩ := hb (by unfold byteCells; simp); cases e
    subst h0
    obtain rfl : l = 0 := hl.symm
    have hq : ∀ V, (binOp .eql 23 (.slice none 0 c) (.slice none 0 0)).run Tryd.prog V = .ok (.bool true) V := fun V => sliceNil_run V _ _ _ _ _ Tryd.underlying23
    clear hb hl
    go_enter Tryd.func26, Tryd.ntmps26
    go_wp2
    go_ret
    exact ⟨none, 0, rfl, World.ownsRow_nil _ _ _ _, Below.refl _ _⟩
  | some a =>
    obtain ⟨w1, hw1⟩ : ∃ w1, w.alloc (.cells #[] 5) = w1 := ⟨_, rfl⟩
    have HB1 : Hid (Below w.heap.size w w1) := by show Below _ _ _; rw [← hw1]; exact (Below.refl _ w).alloc (Nat.le_refl _) _
    have HO1 : Hid (w1.ownsRow w.heap.size 5 1 (.slice (some ⟨w.heap.size, 0, none⟩) 0 0) 0 []) := ⟨rfl, .inr ⟨w.heap.size, 0, #[], rfl, Nat.le_refl _, by rw [← hw1]; exact heap_alloc_new w _, Nat.le_refl _, by unfold maxLen; omega, rfl, rfl⟩⟩
    have hB : Bytes w w.heap.size (some a) bs := fun hp => by
      obtain ⟨b, o, e, hlt, hc⟩ := hb hp
      refine ⟨b, o, e, ?_, hc⟩
      have := hc 0 _ (List.getElem?_eq_getElem hp)
      exact World.block_lt_of_cell? w _ this
    have HC1 := Lib.hid (hB.below HB1.out (Nat.le_refl _))
    have HL : Hid ((byteCells bs).length = l * 1) := by show _ = _; unfold byteCells; rw [List.length_map, hl, Nat.mul_one]
    have hz := HB1.out.size
    have hq : ∀ V, (binOp .eql 23 (.slice (some a) l c) (.slice none 0 0)).run Tryd.prog V = .ok (.bool false) V := fun V => sliceNil_run V _ _ _ _ _ Tryd.underlying23
    clear hb hB hl
    go_enter Tryd.func26, Tryd.ntmps26
    go_wp2_with (at_builtin; go_must (skip; refine wpList_app w1 byteElemF rfl (.tmp 5) (.tmp 6) rfl w.heap.size (.slice (some ⟨w.heap.size, 0, none⟩) 0 0) 0 [] rfl HO1.out w.heap.size (some a) l c (byteCells bs) rfl HL.out HC1.out (byteCells_oneF bs) (by unfold maxLen; omega) (by omega) hz ?_; intro A3 c3 w3 hA; have HA := Lib.hid hA; clear hA))
    go_ret
    have ho := HA.out.own
    rw [Nat.zero_add, List.nil_append] at ho
    exact ⟨A3, c3, by simp, ho, HA.out.below HB1.out HB1.out.size (fun q hq => (HO1.out.lt q hq).1)⟩
set_option maxRecDepth 100000 in
set_option maxHeartbeats 1000000 in
theorem findMF_no (A : Option Addr) (l c : Nat) (fs : List Fi) (s : ByteArray) (B : Nat) (w : World) (hl : fs.length = l) (hm : l ≤ 1000000) (hr : Ris Fi.nm fs) (hb : Files w B A fs) (hB : B ≤ w.heap.size) (ht : hasK Fi.nm fs s = false) :
    Calls Tryd.prog 12 #[.slice A l c, .string s] w fun e w' => e = .returned (.tuple #[.slice none 0 0, .bool false]) ∧ Below w.heap.size w w' := by
  have HP := Lib.hid (placeF_any A l c fs s B w hl hm hr hb hB)
  rw [ht] at HP
  clear hb hr ht
  go_enter Tryd.func12, Tryd.ntmps12
  go_wp2_with (go_at_call 25; refine HP.out.mono ?_; rintro e w1 ⟨rfl, hb1⟩; have HB1 := Lib.hid hb1; clear hb1)
  go_ret2
  exact ⟨rfl, HB1.out⟩
set_option maxRecDepth 100000 in
set_option maxHeartbeats 1000000 in
theorem findMF_yes (A : Option Addr) (l c : Nat) (fs : List Fi) (s : ByteArray) (x : Fi) (B : Nat) (w : World) (hl : fs.length = l) (hm : l ≤ 1000000) (hr : Ris Fi.nm fs) (hb : Files w B A fs) (hB : B ≤ w.heap.size) (ht : hasK Fi.nm fs s = true) (hx : fs[posK Fi.nm fs s]? = some x) (hd : x.data.length ≤ 1000000) :
    Calls Tryd.prog 12 #[.slice A l c, .string s] w fun e w' => ∃ A' c', e = .returned (.tuple #[.slice A' x.data.length c', .bool true]) ∧ w'.ownsRow w.heap.size 5 1 (.slice A' x.data.length c') x.data.length (byteCells x.data) ∧ Below w.heap.size w w' := by
  have HP := Lib.hid (placeF_any A l c fs s B w hl hm hr hb hB)
  rw [ht] at HP
  have hpl := (List.getElem?_eq_some_iff.1 hx).1
  obtain ⟨p, hp⟩ : ∃ p, posK Fi.nm fs s = p := ⟨_, rfl⟩
  rw [hp] at HP hx hpl
  obtain ⟨b, o, rfl, hlt, hc⟩ := hb.row (by rw [fi_len]; omega)
  have HC1 : Hid (∀ W, Below w.heap.size w W → W.cell? ⟨b, o + p * 2 + 1, none⟩ = some (.slice x.ad x.data.length x.cp)) := fun W hW => (hW.cell (p := ⟨b, o + p * 2 + 1, none⟩) (Nat.lt_of_lt_of_le hlt hB)).trans (fi_at hc hx).2
  have HCL := Lib.hid (fun W (hW : Below w.heap.size w W) => cloneB_any x.ad x.data.length x.cp x.data B W rfl hd ((hb.each x (List.mem_of_getElem? hx)).1.below hW hB))
  have hpi : (p : Int) < (l : Int) := by omega
  clear hb hr ht hc hx hp
  go_enter Tryd.func12, Tryd.ntmps12
  go_wp2_with (first
    | (go_at_call 25; refine HP.out.mono ?_; rintro e w1 ⟨rfl, hb1⟩; have HB1 := Lib.hid hb1; have c1 := HC1.out _ hb1; clear hb1)
    | (go_at_call 26; refine (HCL.out _ HB1.out).mono ?_; rintro e w2 ⟨A2, c2, rfl, ho, hb2⟩; have HO2 := Lib.hid ho; have HB2 := Lib.hid (HB1.out.trans (hb2.mono HB1.out.size)); clear ho hb2))
  go_ret2
  refine ⟨A2, c2, rfl, ⟨HO2.out.1, ?_⟩, HB2.out⟩
  rcases HO2.out.2 with h | ⟨g, cap, cur, h1, h2, h3⟩
  · exact .inl h
  · exact .inr ⟨g, cap, cur, h1, Nat.le_trans HB1.out.size h2, h3⟩
end Go.Proofs.YtaneifmbjkolaaaDoor
