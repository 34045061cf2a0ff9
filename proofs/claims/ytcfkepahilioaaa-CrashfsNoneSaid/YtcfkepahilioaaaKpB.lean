/- What a round keeps that appends to the slice in a box; append within a fence. -/
import Derived.Test.YtcfkepahilioaaaGrow
import Derived.RangeFuncBox
import Derived.Maps.AppendAt
import Derived.Deep.Draws
import Derived.Shelf.RegionOpen
import Derived.Shelf.Abstract
import Derived.RangeFuncNested
import Derived.RangeFuncBound
import Derived.RangeFuncCalls
import Derived.RangeFuncLeaves
import Derived.RangeFuncFrom
import Derived.OwnWalkIn
import Derived.TacticsInMore
import Derived.LoopNIn
import Derived.LoopIn
namespace Go.Proofs.Ytcfkepahilioaaa
open Go.RowKit Go.Shelf
attribute [local go_sem] Oper.semAt_some

/-- The block that the slice in a box owns. -/
def ownOf (B : Nat) (W : World) : Option Nat := (W.cell? ⟨B, 0, none⟩).bind Value.ownBlock
/-- What a round keeps that appends to the slice in a box. -/
structure KpB (n B : Nat) (W W' : World) : Prop where
  low : Below n W W'
  cells : ∀ k o, W.heap[k]? = some o → o.isCells = true → k ≠ B → ownOf B W ≠ some k → W'.heap[k]? = some o
  own : ∀ k, ownOf B W' = some k → (ownOf B W = some k ∨ W.heap.size ≤ k) ∧ (ownOf B W = some k ∨ k < W'.heap.size)
  size : W.heap.size ≤ W'.heap.size
theorem KpB.trans {n B : Nat} {X Y Z : World} (h : KpB n B X Y) (k : KpB n B Y Z) : KpB n B X Z := by
  refine ⟨h.low.trans k.low, fun j o hj ho hB hn => ?_, fun j hj => ?_, Nat.le_trans h.size k.size⟩
  · have hlt := (Array.getElem?_eq_some_iff.1 hj).1
    refine k.cells j o (h.cells j o hj ho hB hn) ho hB fun e => ?_
    rcases (h.own j e).1 with h1 | h1
    · exact hn h1
    · omega
  · obtain ⟨h1, h2⟩ := k.own j hj
    have hs := k.size
    have hs0 := h.size
    rcases h1 with h1 | h1
    · obtain ⟨h3, h4⟩ := h.own j h1
      exact ⟨h3, h4.imp id (fun h => by omega)⟩
    · refine ⟨.inr (by omega), ?_⟩
      rcases h2 with h2 | h2
      · exact (h.own j h2).2.imp id (fun h => by omega)
      · exact .inr h2
theorem ownOf_block {B : Nat} {W W' : World} (h : W'.heap[B]? = W.heap[B]?) : ownOf B W' = ownOf B W := by
  unfold ownOf
  rw [World.cell?_of_block (a := ⟨B, 0, none⟩) h]
theorem KpB.putObj {n B : Nat} (W : World) (l : Nat) (o o' : Obj) (hn : n ≤ l) (hB : B < l) (ho : W.heap[l]? = some o) (hc : o.isCells = false) : KpB n B W (W.putObj l o') := by
  have hlt := (Array.getElem?_eq_some_iff.1 ho).1
  have he : ownOf B (W.putObj l o') = ownOf B W := ownOf_block (World.putObj_heap_other (by omega))
  refine ⟨(Below.refl n W).grown (grownBy_putObj' W l o') (by omega) (fun k e => by cases e; omega), fun k p hk hp _ _ => ?_, fun k hk => ?_, ?_⟩
  · by_cases h : k = l
    · rw [h, ho] at hk; cases hk; rw [hc] at hp; cases hp
    · exact (World.putObj_heap_other h).trans hk
  · rw [he] at hk; exact ⟨.inl hk, .inl hk⟩
  · exact (grownBy_putObj' W l o').size
theorem abidesBelow {α : Type} {B : Nat} {J : List α → World → Prop} (h : AbidesFrom B J) {s : List α} {W W' : World} (hj : J s W) (hb : Below W.heap.size W W') : J s W' :=
  h s W W' none hj ⟨hb.os, hb.tape, hb.output, hb.size, fun k hk _ => hb.block k hk⟩ (fun r e => by cases e)
theorem ownOf_box {W : World} {B : Nat} {t : TypeId} {v : Value} (h : Boxed W B t v) : ownOf B W = v.ownBlock := by
  unfold ownOf
  rw [h.cell]
  rfl
theorem kpb_alloc {W : World} {n B : Nat} (o : Obj) (hn : n ≤ W.heap.size) (hB : B < W.heap.size) : KpB n B W (W.alloc o) := by
  have he : ownOf B (W.alloc o) = ownOf B W := ownOf_block (Below.heap_alloc W o B hB)
  refine ⟨(Below.refl n W).alloc hn o, fun k p hk _ _ _ => (Below.heap_alloc W o k (Array.getElem?_eq_some_iff.1 hk).1).trans hk, fun k hk => ?_, by simp⟩
  rw [he] at hk
  exact ⟨.inl hk, .inl hk⟩
theorem wpListIn_app {F : Fence} {n : Nat} {P : Program} (w : World) {ops : Array Oper} {rest : List Oper} {o : Oper} {a : Act} {Q : Exit → Act → World → Prop} {t e : TypeId} {z : Value} {size bytes : Nat} (E : Elem P t e z size bytes) (hgd : o.guard = none) (s x : Operand)
    (ho : o.op = .call { callee := .builtin .append, args := #[s, x], argTypes := #[t, t] }) (base : Nat)
    (v : Value) (k : Nat) (xs : List Value) (hs : a.eval s = v) (hown : w.ownsRow base e size v k xs)
    (B : Nat) (A : Option Addr) (m c : Nat) (news : List Value) (hx : a.eval x = .slice A m c) (hl : news.length = m * size) (hr : Cells w B A news) (h1 : ∀ u ∈ news, u.oneCell' = true)
    (h63 : k + m ≤ maxLen) (hbytes : (k + m) * bytes ≤ 140737488355328) (hbase : base ≤ w.heap.size)
    (h : ∀ A' c' w', App w base e size v (k + m) (xs ++ news) w' (.slice A' (k + m) c') → wpListIn F n P ops Q rest (a.put o.dst (.slice A' (k + m) c')) w') : wpListIn F n P ops Q (o :: rest) a w := by
  refine wpListIn_plain hgd fun K hK' => ?_
  obtain ⟨A', c', w', hrun, h2⟩ := run_append_own_any (P := P) w E base o.type v k xs hown B A m c news hl hr h1 h63 hbytes hbase
  unfold Oper.wpIn
  refine ⟨?_, ?_⟩
  · simp [Oper.about, ho, resolve, Target.leads, Sem.run_pure]
  · rw [Oper.semAt_plain F _ _ (by rw [ho]; intro c hc'; cases hc')]
    simp [execOp, ho, resolve, invoke, builtin, hs, hx, hrun, Result.andThen]
    exact hK' _ _ (h A' c' w' h2)
end Go.Proofs.Ytcfkepahilioaaa
