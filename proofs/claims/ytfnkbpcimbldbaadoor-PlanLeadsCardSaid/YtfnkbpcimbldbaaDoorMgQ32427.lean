/- Layer 38: plan.same. -/
import Derived.Test.YtfnkbpcimbldbaaDoorMgQ32426
import Derived.Test.YtfnkbpcimbldbaaDoorMgQ32417
namespace Go.Proofs.YtfnkbpcimbldbaaDoor
open Go.RowKit

def heldV (o : Option Fi) : Value := .agg #[heldA o, .bool o.isSome]
def dataO (o : Option Fi) : List UInt8 := match o with
  | none => []
  | some f => f.data
def BytesO (w : World) (B : Nat) (o : Option Fi) : Prop := ∀ f, o = some f → Bytes w B f.ad f.data
theorem heldA_form (o : Option Fi) : ∃ A c, heldA o = .slice A (dataO o).length c ∧ ∀ w B, BytesO w B o → Bytes w B A (dataO o) := by
  cases o with
  | none => exact ⟨none, 0, rfl, fun w B _ hp => absurd hp (by unfold dataO byteCells; simp)⟩
  | some f => exact ⟨f.ad, f.cp, rfl, fun w B h => h f rfl⟩
theorem dataO_eq (o1 o2 : Option Fi) : decide (o1.map Fi.data = o2.map Fi.data) = (decide (o1.isSome = o2.isSome) && decide (dataO o1 = dataO o2)) := by
  cases o1 with
  | none => cases o2 <;> simp [dataO]
  | some f => cases o2 with
    | none => simp [dataO]
    | some g =>
      show decide (some f.data = some g.data) = (decide (true = true) && decide (f.data = g.data))
      rw [decide_eq_true rfl, Bool.true_and]
      exact decide_eq_decide.2 ⟨fun h => by injection h, fun h => by rw [h]⟩
set_option maxRecDepth 100000 in
set_option maxHeartbeats 1000000 in
theorem same_any (o1 o2 : Option Fi) (B : Nat) (w : World) (h1 : BytesO w B o1) (h2 : BytesO w B o2) (hB : B ≤ w.heap.size) :
    Calls Tryd.prog 26 #[heldV o1, heldV o2] w fun e w' => e = .returned (.bool (decide (o1.map Fi.data = o2.map Fi.data))) ∧ Below w.heap.size w w' := by
  obtain ⟨A1, c1, ha1, k1⟩ := heldA_form o1
  obtain ⟨A2, c2, ha2, k2⟩ := heldA_form o2
  rw [dataO_eq]
  unfold heldV
  rw [ha1, ha2]
  have hb1 := k1 w B h1
  have hb2 := k2 w B h2
  clear h1 h2 ha1 ha2 k1 k2
  obtain ⟨t1, ht1⟩ : ∃ t, o1.isSome = t := ⟨_, rfl⟩
  obtain ⟨t2, ht2⟩ : ∃ t, o2.isSome = t := ⟨_, rfl⟩
  rw [ht1, ht2]
  obtain ⟨d1, hd1⟩ : ∃ t, dataO o1 = t := ⟨_, rfl⟩
  obtain ⟨d2, hd2⟩ : ∃ t, dataO o2 = t := ⟨_, rfl⟩
  rw [hd1] at hb1 ⊢
  rw [hd2] at hb2 ⊢
  clear ht1 ht2 hd1 hd2 o1 o2
  obtain ⟨W1, hW1⟩ : ∃ W1, w.alloc (.cells #[.slice A1 d1.length c1, .bool t1] 54) = W1 := ⟨_, rfl⟩
  obtain ⟨W2, hW2⟩ : ∃ W2, W1.alloc (.cells #[.slice A2 d2.length c2, .bool t2] 54) = W2 := ⟨_, rfl⟩
  have hz1 : W1.heap.size = w.heap.size + 1 := by rw [← hW1]; simp
  have hbw : Below w.heap.size w W2 := by rw [← hW2, ← hW1]; exact ((Below.refl _ w).alloc (Nat.le_refl _) _).alloc (by simp) _
  have hx1 : W2.heap[w.heap.size]? = some (.cells #[.slice A1 d1.length c1, .bool t1] 54) := by
    rw [← hW2]
    refine (Below.heap_alloc W1 _ _ (by omega)).trans ?_
    rw [← hW1]
    exact heap_alloc_new w _
  have hx2 : W2.heap[w.heap.size + 1]? = some (.cells #[.slice A2 d2.length c2, .bool t2] 54) := by rw [← hW2, ← hz1]; exact heap_alloc_new W1 _
  have e0 : W2.cell? ⟨w.heap.size, 0, none⟩ = some (.slice A1 d1.length c1) := cell_of_row W2 _ 0 _ _ _ hx1
  have e1 : W2.cell? ⟨w.heap.size, 1, none⟩ = some (.bool t1) := cell_of_row W2 _ 1 _ _ _ hx1
  have g0 : W2.cell? ⟨w.heap.size + 1, 0, none⟩ = some (.slice A2 d2.length c2) := cell_of_row W2 _ 0 _ _ _ hx2
  have g1 : W2.cell? ⟨w.heap.size + 1, 1, none⟩ = some (.bool t2) := cell_of_row W2 _ 1 _ _ _ hx2
  have HB2 := Lib.hid hbw
  have HEQ := Lib.hid (equalB_any A1 A2 d1.length c1 d2.length c2 B d1 d2 W2 rfl rfl (hb1.below hbw hB) (hb2.below hbw hB))
  clear hb1 hb2 hx1 hx2 hbw hB
  by_cases ht : t1 = t2
  · subst ht
    have tt : (t1 == t1) = true := by simp
    go_enter Tryd.func26, Tryd.ntmps26
    go_wp2_with (go_at_call 41; refine HEQ.out.mono ?_; rintro e w3 ⟨rfl, hw3⟩; have HW3 := Lib.hid hw3; clear hw3)
    go_ret
    exact ⟨by simp, by rw [← HW3.out]; exact HB2.out⟩
  · have tt : (t1 == t2) = false := by cases t1 <;> cases t2 <;> simp_all
    have HD : Hid (decide (t1 = t2) = false) := decide_eq_false ht
    rw [HD.out]
    clear ht
    go_enter Tryd.func26, Tryd.ntmps26
    go_wp2
    go_ret
    exact ⟨by simp, HB2.out⟩
end Go.Proofs.YtfnkbpcimbldbaaDoor
/- Layer 38: two rows of a call's own, each in a variable; what lies beside them. -/
namespace Go.Proofs.YtfnkbpcimbldbaaDoor
open Go.RowKit

/-- Two rows, each told by a variable's box, both apart from a third block. -/
structure TwoR (w : World) (base p q r : Nat) (tp tq ep eq : TypeId) (kp kq : Nat) (vp : Value) (np : Nat) (xs : List Value) (vq : Value) (nq : Nat) (ys : List Value) : Prop where
  bp : w.heap[p]? = some (.cells #[vp] tp (0, 0))
  bq : w.heap[q]? = some (.cells #[vq] tq (0, 0))
  rp : w.ownsRow base ep kp vp np xs
  rq : w.ownsRow base eq kq vq nq ys
  lo : p < base ∧ q < base ∧ p ≠ q ∧ base ≤ r
  ap : ∀ k, ownS vp k → k ≠ r ∧ ¬ ownS vq k
  aq : ∀ k, ownS vq k → k ≠ r
def twoS (p q r : Nat) (vp vq : Value) : Nat → Prop := fun k => k = p ∨ k = q ∨ k = r ∨ ownS vp k ∨ ownS vq k
section
variable {w w1 w7 : World} {base p q r : Nat} {tp tq ep eq : TypeId} {kp kq np nq : Nat} {vp vq : Value} {xs ys : List Value}
theorem TwoR.swap (h : TwoR w base p q r tp tq ep eq kp kq vp np xs vq nq ys) : TwoR w base q p r tq tp eq ep kq kp vq nq ys vp np xs :=
  ⟨h.bq, h.bp, h.rq, h.rp, ⟨h.lo.2.1, h.lo.1, h.lo.2.2.1.symm, h.lo.2.2.2⟩, fun k hk => ⟨h.aq k hk, fun h2 => (h.ap k h2).2 hk⟩, fun k hk => (h.ap k hk).1⟩
theorem TwoR.keep {S : Nat → Prop} (h : TwoR w base p q r tp tq ep eq kp kq vp np xs vq nq ys) (hm : Mod S w w1) (hn : ∀ k, S k → k ≠ p ∧ k ≠ q ∧ ¬ ownS vp k ∧ ¬ ownS vq k) : TwoR w1 base p q r tp tq ep eq kp kq vp np xs vq nq ys :=
  ⟨hm.keep h.bp (fun e => (hn _ e).1 rfl), hm.keep h.bq (fun e => (hn _ e).2.1 rfl), own_keep h.rp hm (fun _ hk e => (hn _ e).2.2.1 hk), own_keep h.rq hm (fun _ hk e => (hn _ e).2.2.2 hk), h.lo, h.ap, h.aq⟩
theorem TwoR.keepN (h : TwoR w base p q r tp tq ep eq kp kq vp np xs vq nq ys) (hb : Below w.heap.size w w1) : TwoR w1 base p q r tp tq ep eq kp kq vp np xs vq nq ys :=
  h.keep (Mod.of_below hb) (fun _ e => e.elim)
theorem TwoR.keepR (h : TwoR w base p q r tp tq ep eq kp kq vp np xs vq nq ys) (hm : Mod (oneB r) w w1) : TwoR w1 base p q r tp tq ep eq kp kq vp np xs vq nq ys :=
  h.keep hm (fun k e => by
    have e : k = r := e
    subst e
    exact ⟨by have := h.lo; omega, by have := h.lo; omega, fun e => (h.ap _ e).1 rfl, fun e => h.aq _ e rfl⟩)
theorem TwoR.lt (h : TwoR w base p q r tp tq ep eq kp kq vp np xs vq nq ys) : p < w.heap.size ∧ q < w.heap.size := ⟨(Array.getElem?_eq_some_iff.1 h.bp).1, (Array.getElem?_eq_some_iff.1 h.bq).1⟩
theorem TwoR.low (h : TwoR w base p q r tp tq ep eq kp kq vp np xs vq nq ys) (hr : r < w.heap.size) : ∀ k, twoS p q r vp vq k → k < w.heap.size := fun k hk => by
  rcases hk with rfl | rfl | rfl | hk | hk
  · exact h.lt.1
  · exact h.lt.2
  · exact hr
  · exact (h.rp.lt k hk).2
  · exact (h.rq.lt k hk).2
theorem TwoR.appP {np' : Nat} {xs' : List Value} {vp' : Value} (h : TwoR w base p q r tp tq ep eq kp kq vp np xs vq nq ys) (hr : r < w.heap.size) (hA : App w base ep kp vp np' xs' w7 vp') :
    TwoR (w7.setCell ⟨p, 0, none⟩ vp') base p q r tp tq ep eq kp kq vp' np' xs' vq nq ys ∧ Mod (fun k => k = p ∨ ownS vp k) w (w7.setCell ⟨p, 0, none⟩ vp') ∧ ∀ k, k < w.heap.size → twoS p q r vp' vq k → twoS p q r vp vq k := by
  have hm := Mod.of_app hA
  have hlo := h.lo
  have hpo : ¬ ownS vp p := fun e => by have := (h.rp.lt p e).1; omega
  have hqo : ¬ ownS vp q := fun e => by have := (h.rp.lt q e).1; omega
  have hp7 := hm.keep h.bp hpo
  have hq7 := hm.keep h.bq hqo
  have hr7 := own_keep h.rq hm (fun k hk e => (h.ap k e).2 hk)
  have ms : Mod (oneB p) w7 (w7.setCell ⟨p, 0, none⟩ vp') := (Mod.refl (oneB p) w7).set ⟨p, 0, none⟩ _ (.inl rfl)
  have hpl : ∀ k, ownS vp' k → ownS vp k ∨ w.heap.size ≤ k := hA.place
  refine ⟨⟨?_, ms.keep hq7 (fun e => hlo.2.2.1 e.symm), own_keep hA.own ms (fun k hk e => ?_), own_keep hr7 ms (fun k hk e => ?_), hlo, fun k hk => ?_, h.aq⟩, ?_, fun k hk hs => ?_⟩
  · have := heap_setCell_same w7 p 0 _ _ vp' hp7
    rw [this]
    rfl
  · have e : k = p := e
    subst e
    have := (hA.own.lt k hk).1
    omega
  · have e : k = p := e
    subst e
    have := (h.rq.lt k hk).1
    omega
  · rcases hpl k hk with h1 | h1
    · exact h.ap k h1
    · exact ⟨by omega, fun h2 => by have := (h.rq.lt k h2).2; omega⟩
  · exact (hm.mono (T := fun k => k = p ∨ ownS vp k) (fun k e => .inr e)).trans ms (fun k e => .inl (.inl e))
  · rcases hs with h1 | h1 | h1 | h1 | h1
    · exact .inl h1
    · exact .inr (.inl h1)
    · exact .inr (.inr (.inl h1))
    · rcases hpl k h1 with h2 | h2
      · exact .inr (.inr (.inr (.inl h2)))
      · omega
    · exact .inr (.inr (.inr (.inr h1)))
/-- Bytes that lie in a block that is none of those. -/
def Keeps (w : World) (S : Nat → Prop) (A : Option Addr) (bs : List UInt8) : Prop := 0 < bs.length → ∃ b o, A = some ⟨b, o, none⟩ ∧ ¬ S b ∧ b < w.heap.size ∧ ∀ j u, (byteCells bs)[j]? = some u → w.cell? ⟨b, o + j, none⟩ = some u
theorem Keeps.mod {S S1 : Nat → Prop} {A : Option Addr} {bs : List UInt8} (h : Keeps w S A bs) (hm : Mod S1 w w1) (hs : ∀ k, S1 k → S k) : Keeps w1 S A bs := fun hp => by
  obtain ⟨b, o, e, h1, h2, h3⟩ := h hp
  refine ⟨b, o, e, h1, Nat.lt_of_lt_of_le h2 hm.size, fun j u hu => ?_⟩
  have h4 := h3 j u hu
  unfold World.cell? at h4 ⊢
  rw [hm.block b h2 (fun e => h1 (hs b e))]
  exact h4
theorem Keeps.to {S S2 : Nat → Prop} {A : Option Addr} {bs : List UInt8} (h : Keeps w S A bs) (hs : ∀ k, k < w.heap.size → S2 k → S k) : Keeps w S2 A bs := fun hp => by
  obtain ⟨b, o, e, h1, h2, h3⟩ := h hp
  exact ⟨b, o, e, fun h => h1 (hs b h2 h), h2, h3⟩
theorem Keeps.of_own {S : Nat → Prop} {A : Option Addr} {l c : Nat} {bs : List UInt8} {b0 : Nat} {e : TypeId} (h : w.ownsRow b0 e 1 (.slice A l c) l (byteCells bs)) (hs : ∀ k, S k → k < b0) : Keeps w S A bs := fun hp => by
  obtain ⟨b, o, e1, h2, h3⟩ := cells_of_ownF h (by unfold byteCells; rw [List.length_map]; exact hp)
  refine ⟨b, o, e1, fun h => ?_, h2, h3⟩
  have := (ownK_form ‹w.ownsRow b0 e 1 (.slice A l c) l (byteCells bs)›)
  rcases this with ⟨_, h0⟩ | ⟨g, c', hv⟩
  · have := ‹w.ownsRow b0 e 1 (.slice A l c) l (byteCells bs)›.1
    unfold byteCells at this
    rw [List.length_map] at this
    omega
  · simp only [Value.slice.injEq] at hv
    have hb := ‹w.ownsRow b0 e 1 (.slice A l c) l (byteCells bs)›.lt b (by rw [e1]; rfl)
    have := hs b h
    omega
/-- From one state of both rows to another one. -/
structure TPost (w w' : World) (base p q r : Nat) (tp tq ep eq : TypeId) (kp kq : Nat) (vp vq vp' vq' : Value) (np' nq' : Nat) (xs' ys' : List Value) : Prop where
  two : TwoR w' base p q r tp tq ep eq kp kq vp' np' xs' vq' nq' ys'
  mod : Mod (twoS p q r vp vq) w w'
  low : Mod (fun k => (base ≤ k ∨ k = p ∨ k = q) ∧ k ≠ r) w w'
  sub : ∀ k, k < w.heap.size → twoS p q r vp' vq' k → twoS p q r vp vq k
variable {w' w2 : World} {vp1 vq1 vp2 vq2 : Value} {np1 nq1 np2 nq2 : Nat} {xs1 ys1 xs2 ys2 : List Value}
theorem TPost.trans (h : TPost w w1 base p q r tp tq ep eq kp kq vp vq vp1 vq1 np1 nq1 xs1 ys1) (k : TPost w1 w2 base p q r tp tq ep eq kp kq vp1 vq1 vp2 vq2 np2 nq2 xs2 ys2) : TPost w w2 base p q r tp tq ep eq kp kq vp vq vp2 vq2 np2 nq2 xs2 ys2 :=
  ⟨k.two, h.mod.trans k.mod (fun j hj => by
    rcases Nat.lt_or_ge j w.heap.size with h1 | h1
    · exact .inl (h.sub j h1 hj)
    · exact .inr h1), h.low.trans k.low (fun j hj => .inl hj), fun j hj h2 => h.sub j hj (k.sub j (Nat.lt_of_lt_of_le hj h.mod.size) h2)⟩
theorem TPost.refl (h : TwoR w base p q r tp tq ep eq kp kq vp np xs vq nq ys) : TPost w w base p q r tp tq ep eq kp kq vp vq vp vq np nq xs ys :=
  ⟨h, Mod.refl _ _, Mod.refl _ _, fun _ _ h => h⟩
theorem TPost.below (h : TwoR w base p q r tp tq ep eq kp kq vp np xs vq nq ys) (hb : Below w.heap.size w w1) : TPost w w1 base p q r tp tq ep eq kp kq vp vq vp vq np nq xs ys :=
  ⟨h.keepN hb, (Mod.of_below hb).mono (fun _ e => e.elim), (Mod.of_below hb).mono (fun _ e => e.elim), fun _ _ h => h⟩
/-- The third block alone changes, and is behind the first world. -/
theorem TPost.third (h : TPost w w1 base p q r tp tq ep eq kp kq vp vq vp1 vq1 np1 nq1 xs1 ys1) (hm : Mod (oneB r) w1 w2) (hr : w.heap.size ≤ r) : TPost w w2 base p q r tp tq ep eq kp kq vp vq vp1 vq1 np1 nq1 xs1 ys1 :=
  ⟨h.two.keepR hm, h.mod.trans hm (fun j hj => .inl (.inr (.inr (.inl hj)))), h.low.trans hm (fun j hj => .inr (by have e : j = r := hj; omega)), h.sub⟩
theorem twoS_swap {k : Nat} : twoS p q r vp vq k → twoS q p r vq vp k := fun h => by
  rcases h with h | h | h | h | h
  · exact .inr (.inl h)
  · exact .inl h
  · exact .inr (.inr (.inl h))
  · exact .inr (.inr (.inr (.inr h)))
  · exact .inr (.inr (.inr (.inl h)))
theorem TPost.swap (h : TPost w w1 base p q r tp tq ep eq kp kq vp vq vp1 vq1 np1 nq1 xs1 ys1) : TPost w w1 base q p r tq tp eq ep kq kp vq vp vq1 vp1 nq1 np1 ys1 xs1 :=
  ⟨h.two.swap, h.mod.mono (fun _ e => twoS_swap e), h.low.mono (fun k e => ⟨by rcases e.1 with e1 | e1 | e1; exact .inl e1; exact .inr (.inr e1); exact .inr (.inl e1), e.2⟩), fun k hk e => twoS_swap (h.sub k hk (twoS_swap e))⟩
theorem TPost.app (h : TwoR w base p q r tp tq ep eq kp kq vp np xs vq nq ys) (hr : r < w.heap.size) {V : World} (hb : Below w.heap.size w V) {np' : Nat} {xs' : List Value} {vp' : Value} (hA : App V base ep kp vp np' xs' w7 vp') :
    TPost w (w7.setCell ⟨p, 0, none⟩ vp') base p q r tp tq ep eq kp kq vp vq vp' vq np' nq xs' ys := by
  obtain ⟨h1, h2, h3⟩ := (h.keepN hb).appP (Nat.lt_of_lt_of_le hr hb.size) hA
  have hm : Mod noB w V := Mod.of_below hb
  refine ⟨h1, (hm.mono (T := twoS p q r vp vq) (fun _ h => h.elim)).trans h2 (fun k hk => ?_), (hm.mono (T := fun k => (base ≤ k ∨ k = p ∨ k = q) ∧ k ≠ r) (fun _ h => h.elim)).trans h2 (fun k hk => ?_), fun k hk e => h3 k (Nat.lt_of_lt_of_le hk hb.size) e⟩
  · rcases hk with hk | hk
    · exact .inl (.inl hk)
    · exact .inl (.inr (.inr (.inr (.inl hk))))
  · rcases hk with hk | hk
    · exact .inl ⟨.inr (.inl hk), by have := h.lo; omega⟩
    · exact .inl ⟨.inl (h.rp.lt k hk).1, (h.ap k hk).1⟩
theorem Keeps.on {A : Option Addr} {bs : List UInt8} (h : Keeps w (twoS p q r vp vq) A bs) (t : TPost w w1 base p q r tp tq ep eq kp kq vp vq vp1 vq1 np1 nq1 xs1 ys1) : Keeps w1 (twoS p q r vp1 vq1) A bs := by
  have h2 := h.mod t.mod (fun _ e => e)
  intro hp
  obtain ⟨b, f, e, g1, g2, _⟩ := h hp
  obtain ⟨b', f', e', _, g5, g6⟩ := h2 hp
  rw [e] at e'
  injection e' with e'
  injection e' with e1 e2 e3
  subst e1 e2
  exact ⟨b, f, e, fun hs => g1 (t.sub b g2 hs), g5, g6⟩
theorem Keeps.bytes {S : Nat → Prop} {A : Option Addr} {bs : List UInt8} (h : Keeps w S A bs) : Bytes w w.heap.size A bs := fun hp => by
  obtain ⟨b, o, e, _, h2, h3⟩ := h (by unfold byteCells at hp; rw [List.length_map] at hp; exact hp)
  exact ⟨b, o, e, h2, h3⟩
end
end Go.Proofs.YtfnkbpcimbldbaaDoor
