/- Layer 10: Chain: all candidates, as a row. -/
import Derived.Test.YtnkkdjnhnbiiaaaMbFind
import Derived.RangeFuncBox
import Derived.Maps.AppendAt
namespace Go.Proofs.Ytnkkdjnhnbiiaaa
open Go.RowKit Go.Shelf
attribute [local go_sem] Oper.semAt_some

def nl (x : Nat) : Value := .int .i64 (x : Int)
theorem intInfo : (Try.prog.info? 3).map (fun i => (i.zero, i.size, i.bytes)) = some (some (.int .i64 0), 1, 8) := by kernel_rfl
theorem ownS_of {β : Type} {B : Nat} {I : β → World → Prop} (h : Own I) : OwnS B (fun _ => False) I := fun s W W' row hs hg hr => h s W W' row hs hg (fun r e => ((hr r e).resolve_left id).2)
set_option maxRecDepth 100000 in
set_option maxHeartbeats 4000000 in
theorem appendSeq_any (gf : Nat) (lb : Array Value) (L : List Nat) (hlen : L.length ≤ 40000) (w : World) (eg : ∀ args w, (callFunc gf args).run Try.prog w = .ok (.enter gf args) w)
    (hseq : ∀ W : World, Below w.heap.size w W → w.heap.size < W.heap.size → SeqS Fence.wide 5 Try.prog gf lb (fun x : Nat => #[.int .i64 (x : Int)]) (KeepC (fun k => w.heap.size ≤ k)) (fun _ => False) (fun xs => xs = L) (fun pre => pre <+: L) 32769 W) :
    Calls Try.prog 22 #[.slice none 0 0, .func (.func gf) #[] lb] w fun e w' => ∃ v, e = .returned v ∧ w'.ownsRow w.heap.size 3 1 v L.length (L.map nl) ∧ Below w.heap.size w w' := by
  obtain ⟨i0, hi, hz0, hz1, hz2⟩ := info_parts intInfo
  refine (callsIn_wide (n := 6)).1 ?_
  refine callsIn_of_wp_marks Try.func22 rfl trivial ?_ rfl
  simp only [Try.ntmps22, List.size_toArray, List.length_cons, List.length_nil, Nat.reduceAdd, Nat.reduceSub, Array.replicate_succ, Array.replicate_zero, List.push_toArray, List.append_toArray, List.nil_append, List.cons_append]
  gi_wp2
  obtain ⟨W1, hW1⟩ : ∃ W1, w.alloc (.cells #[.slice none 0 0] 26) = W1 := ⟨_, rfl⟩
  have bO : Boxed W1 w.heap.size 26 (.slice none 0 0) := by rw [← hW1]; exact Boxed.new w _ _
  have hB0 : Below w.heap.size w W1 := by rw [← hW1]; exact (Below.refl _ w).alloc (Nat.le_refl _) _
  have hz : W1.heap.size = w.heap.size + 1 := by rw [← hW1]; simp
  rw [hW1]
  clear hW1
  refine wpIn_rangeFunc_S rfl (by omega) (gf := gf) (lb := lb) rfl trivial eg (hseq W1 hB0 (by omega))
    (fun r hr => hr.elim) (fun h k => h.trans k) (fun W l o o' _ ho hc _ => KeepC.putObj _ W l o o' ho hc) (Below.refl _ _) (fun _ => rfl)
    (fun pre W => (∃ v, Boxed W w.heap.size 26 v ∧ W.ownsRow w.heap.size 3 1 v pre.length (pre.map nl) ∧ True) ∧ Below w.heap.size w W)
    (fun _ _ _ => False)
    ((ownS_of (holdsRow_own w.heap.size w.heap.size 26 3 1 (fun pre : List Nat => pre.length) (fun pre => pre.map nl) (fun _ _ => True))).and (ownS_below (Nat.le_refl _) (by omega) (fun _ h => h.elim)))
    (fun _ _ _ _ _ h _ _ => h)
    ⟨⟨_, bO, World.ownsRow_nil _ _ _ _, trivial⟩, hB0⟩
    (fun x => { tmps := #[.slice none 0 0, .func (.func gf) #[] lb, .pointer (some ⟨w.heap.size, 0, none⟩), undef, .slice none 0 0, .int .i64 (x : Int), .func (.func gf) #[] lb, .int .i64 (x : Int), undef, undef, undef, undef, undef], defers := [] }) ?assign ?body ?done ?stop
  case assign =>
    intro l x W K hK
    gi_wp2
    exact hK
  case body =>
    rintro l pre x W ⟨⟨v, hv, hrow, _⟩, hB⟩ hlt
    have hc := hv.cell
    gi_wp2_with (gi_at_builtin; refine wpListIn_append_own _ rfl _ _ 26 rfl w.heap.size 3 i0 (.int .i64 0) 1 8 Try.underlying26 hi hz0 hz1 hz2 rfl (by decide) _ _ _ rfl (hrow.alloc _) ⟨W.heap.size, 0, none⟩ 1 1 [.int .i64 (x : Int)] rfl rfl (cell_one_new _ _ _) (by simp [Value.oneCell']) (by unfold maxLen; omega) (by omega) (by have := hB.size; simp; omega) ?_; intro v' w1 hown' hgrow _; obtain ⟨g', cap', rfl⟩ := ownsRow_succ hown'; obtain ⟨hv1, hv2, hr2, hk2, hb2⟩ := hv.appended (by decide) hrow hB.size (Nat.le_refl _) hown' hgrow; have hc1 := hv1.cell; have hf1 := hv1.frozen)
    exact ⟨hk2, fun k o hk _ hs => (hb2.block k (by omega)).trans hk, ⟨_, hv2, by simpa [nl] using hr2, trivial⟩, hB.trans hb2⟩
  case done =>
    rintro D ys W hD rfl ⟨⟨v, hv, hrow, _⟩, hB⟩ hK
    have hc := hv.cell
    gi_wp2
    refine ⟨by simp, .inl ⟨_, _, rfl, run_takeDeferred hK, ?_⟩⟩
    exact ⟨_, results_tmp rfl _ _ _, v, rfl, ownsRow_putObj hrow _ hK rfl, hB.trans ((Below.refl _ W).grown (grownBy_putObj' W D _) (by have := hB.size; omega) (fun k e => by cases e; omega))⟩
  case stop =>
    rintro D c pre W _ _ h _
    exact h.elim
end Go.Proofs.Ytnkkdjnhnbiiaaa
