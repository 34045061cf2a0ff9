/- Layer 38: plan.same. -/
import Derived.Test.YtfnkbpcimbldbaaPnE
import Derived.Test.YtfnkbpcimbldbaaFiE
namespace Go.Proofs.Ytfnkbpcimbldbaa
open Go.RowKit

def heldL (o : Option Fi) : List Value := [heldA o, .bool o.isSome]
def heldV (o : Option Fi) : Value := .agg #[heldA o, .bool o.isSome]
def dataO (o : Option Fi) : List UInt8 := match o with
  | none => []
  | some f => f.data
def BytesO (w : World) (B : Nat) (o : Option Fi) : Prop := ∀ f, o = some f → Bytes w B f.ad f.data
theorem heldA_form (o : Option Fi) : ∃ A c, heldA o = .slice A (dataO o).length c ∧ ∀ w B, BytesO w B o → Bytes w B A (dataO o) := by
  cases o with
  | none => exact ⟨none, 0, rfl, fun w B _ hp => absurd hp (by unfold dataO byteCells; simp)⟩
  | some f => exact ⟨f.ad, f.cp, rfl, fun w B h => h f rfl⟩
theorem dataO_eq (o1 o2 : Option Fi) : decide (o1.map Fi.data = o2.map Fi.data) = (decide (o1.isSome = o2.isSome) && decide (dataO o1 = dataO o2)) := by
  cases o1 with
  | none => cases o2 <;> simp [dataO]
  | some f => cases o2 with
    | none => simp [dataO]
    | some g =>
      show decide (some f.data = some g.data) = (decide (true = true) && decide (f.data = g.data))
      rw [decide_eq_true rfl, Bool.true_and]
      exact decide_eq_decide.2 ⟨fun h => by injection h, fun h => by rw [h]⟩
set_option maxRecDepth 100000 in
set_option maxHeartbeats 1000000 in
theorem same_any (o1 o2 : Option Fi) (B : Nat) (w : World) (h1 : BytesO w B o1) (h2 : BytesO w B o2) (hB : B ≤ w.heap.size) :
    Calls Try.prog 14 #[heldV o1, heldV o2] w fun e w' => e = .returned (.bool (decide (o1.map Fi.data = o2.map Fi.data))) ∧ Below w.heap.size w w' := by
  obtain ⟨A1, c1, ha1, k1⟩ := heldA_form o1
  obtain ⟨A2, c2, ha2, k2⟩ := heldA_form o2
  rw [dataO_eq]
  unfold heldV
  rw [ha1, ha2]
  have hb1 := k1 w B h1
  have hb2 := k2 w B h2
  clear h1 h2 ha1 ha2 k1 k2
  obtain ⟨t1, ht1⟩ : ∃ t, o1.isSome = t := ⟨_, rfl⟩
  obtain ⟨t2, ht2⟩ : ∃ t, o2.isSome = t := ⟨_, rfl⟩
  rw [ht1, ht2]
  obtain ⟨d1, hd1⟩ : ∃ t, dataO o1 = t := ⟨_, rfl⟩
  obtain ⟨d2, hd2⟩ : ∃ t, dataO o2 = t := ⟨_, rfl⟩
  rw [hd1] at hb1 ⊢
  rw [hd2] at hb2 ⊢
  clear ht1 ht2 hd1 hd2 o1 o2
  obtain ⟨W1, hW1⟩ : ∃ W1, w.alloc (.cells #[.slice A1 d1.length c1, .bool t1] 44) = W1 := ⟨_, rfl⟩
  obtain ⟨W2, hW2⟩ : ∃ W2, W1.alloc (.cells #[.slice A2 d2.length c2, .bool t2] 44) = W2 := ⟨_, rfl⟩
  have hz1 : W1.heap.size = w.heap.size + 1 := by rw [← hW1]; simp
  have hbw : Below w.heap.size w W2 := by rw [← hW2, ← hW1]; exact ((Below.refl _ w).alloc (Nat.le_refl _) _).alloc (by simp) _
  have hx1 : W2.heap[w.heap.size]? = some (.cells #[.slice A1 d1.length c1, .bool t1] 44) := by
    rw [← hW2]
    refine (Below.heap_alloc W1 _ _ (by omega)).trans ?_
    rw [← hW1]
    exact heap_alloc_new w _
  have hx2 : W2.heap[w.heap.size + 1]? = some (.cells #[.slice A2 d2.length c2, .bool t2] 44) := by rw [← hW2, ← hz1]; exact heap_alloc_new W1 _
  have e0 : W2.cell? ⟨w.heap.size, 0, none⟩ = some (.slice A1 d1.length c1) := cell_of_row W2 _ 0 _ _ _ hx1
  have e1 : W2.cell? ⟨w.heap.size, 1, none⟩ = some (.bool t1) := cell_of_row W2 _ 1 _ _ _ hx1
  have g0 : W2.cell? ⟨w.heap.size + 1, 0, none⟩ = some (.slice A2 d2.length c2) := cell_of_row W2 _ 0 _ _ _ hx2
  have g1 : W2.cell? ⟨w.heap.size + 1, 1, none⟩ = some (.bool t2) := cell_of_row W2 _ 1 _ _ _ hx2
  have HB2 := Lib.hid hbw
  have HEQ := Lib.hid (equalB_any A1 A2 d1.length c1 d2.length c2 B d1 d2 W2 rfl rfl (hb1.below hbw hB) (hb2.below hbw hB))
  clear hb1 hb2 hx1 hx2 hbw hB
  by_cases ht : t1 = t2
  · subst ht
    have tt : (t1 == t1) = true := by simp
    go_enter Try.func14, Try.ntmps14
    go_wp2_with (go_at_call 23; refine HEQ.out.mono ?_; rintro e w3 ⟨rfl, hw3⟩; have HW3 := Lib.hid hw3; clear hw3)
    go_ret
    exact ⟨by simp, by rw [← HW3.out]; exact HB2.out⟩
  · have tt : (t1 == t2) = false := by cases t1 <;> cases t2 <;> simp_all
    have HD : Hid (decide (t1 = t2) = false) := decide_eq_false ht
    rw [HD.out]
    clear ht
    go_enter Try.func14, Try.ntmps14
    go_wp2
    go_ret
    exact ⟨by simp, HB2.out⟩
end Go.Proofs.Ytfnkbpcimbldbaa
