/- slices.Collect and slices.Sorted of texts; member.Sort. -/
import Derived.Test.YtcfkepahilioaaaFsV
import Derived.Test.YtcfkepahilioaaaRowK
import Derived.Maps.AppendAt
namespace Go.Proofs.Ytcfkepahilioaaa
open Go.RowKit Go.Shelf
attribute [local go_sem] Oper.semAt_some

theorem intNew (W : World) (s : Int) : Cells (W.alloc (.cells #[.int .i64 s] 3)) (W.heap.size + 1) (some ⟨W.heap.size, 0, none⟩) [.int .i64 s] := fun _ =>
  ⟨W.heap.size, 0, rfl, by omega, fun j u hu => by
    rw [Nat.zero_add, cell_of_row _ W.heap.size j _ _ _ (heap_alloc_new W _), ← Array.getElem?_toList]
    exact hu⟩
theorem kpbI_append {W w1 : World} {n B : Nat} {v v' : Value} {k m : Nat} {xs ys : List Value} {tmp : Obj} (hv : Boxed W B 57 v) (hrow : W.ownsRow n 3 1 v k xs) (hn : n ≤ W.heap.size) (hB : n ≤ B) (hap : App (W.alloc tmp) n 3 1 v m ys w1 v') :
    Boxed w1 B 57 v ∧ Boxed (w1.setCell ⟨B, 0, none⟩ v') B 57 v' ∧ (w1.setCell ⟨B, 0, none⟩ v').ownsRow n 3 1 v' m ys ∧ KeepsOthers W (w1.setCell ⟨B, 0, none⟩ v') ∧ Below n W (w1.setCell ⟨B, 0, none⟩ v') ∧ KpB n B W (w1.setCell ⟨B, 0, none⟩ v') := by
  obtain ⟨p1, p2, p3, p4, p5⟩ := hv.appended (by decide) hrow hn hB hap.own hap.grow
  have hs1 := hap.grow.size
  have hs2 : W.heap.size + 1 ≤ w1.heap.size := by simpa using hs1
  refine ⟨p1, p2, p3, p4, p5, p5, fun j o hj ho hjB hno => ?_, fun j hj => ?_, p4.size⟩
  · have hlt := (Array.getElem?_eq_some_iff.1 hj).1
    rw [ownOf_box hv] at hno
    exact (Below.heap_setCell w1 ⟨B, 0, none⟩ v' j hjB).trans ((hap.grow.block j (by simp; omega) (fun e => hno e.symm)).trans ((Below.heap_alloc W tmp j hlt).trans hj))
  · rw [ownOf_box p2] at hj
    rw [ownOf_box hv]
    rcases hap.loc with h | ⟨g, h, hg⟩
    · rw [h] at hj; exact ⟨.inl hj, .inl hj⟩
    · rw [h] at hj
      cases hj
      have hlt := own_lt p3 j h
      refine ⟨.inr (by simp at hg; omega), .inr hlt⟩
set_option maxRecDepth 100000 in
set_option maxHeartbeats 4000000 in
theorem appendSeqI_any (gf : Nat) (lb : Array Value) (L : List Int) (hlen : L.length ≤ 1000000) (w : World) (eg : ∀ args w, (callFunc gf args).run Try.prog w = .ok (.enter gf args) w)
    (hseq : ∀ W : World, Below w.heap.size w W → w.heap.size < W.heap.size → ownOf w.heap.size W = none → SeqStopsK Fence.wide 5 Try.prog gf lb (fun p : Int => #[.int .i64 p]) (KpB w.heap.size w.heap.size) (fun xs => xs = L) (fun pre => pre <+: L) 1000001 W) :
    Calls Try.prog 78 #[.slice none 0 0, .func (.func gf) #[] lb] w fun e w' => ∃ v, e = .returned v ∧ w'.ownsRow w.heap.size 3 1 v L.length (intCs L) ∧ Below w.heap.size w w' := by
  refine (callsIn_wide (n := 6)).1 ?_
  refine callsIn_of_wp_marks Try.func78 rfl trivial ?_ rfl
  simp only [Try.ntmps78, List.size_toArray, List.length_cons, List.length_nil, Nat.reduceAdd, Nat.reduceSub, Array.replicate_succ, Array.replicate_zero, List.push_toArray, List.append_toArray, List.nil_append, List.cons_append]
  gi_wp2
  obtain ⟨W1, hW1⟩ : ∃ W1, w.alloc (.cells #[.slice none 0 0] 57) = W1 := ⟨_, rfl⟩
  have bO : Boxed W1 w.heap.size 57 (.slice none 0 0) := by rw [← hW1]; exact Boxed.new w _ _
  have hB0 : Below w.heap.size w W1 := by rw [← hW1]; exact (Below.refl _ w).alloc (Nat.le_refl _) _
  have hz : W1.heap.size = w.heap.size + 1 := by rw [← hW1]; simp
  rw [hW1]
  clear hW1
  refine wpIn_rangeFunc_ownH rfl (by omega) (gf := gf) (lb := lb) rfl trivial eg (hseq W1 hB0 (by omega) (by rw [ownOf_box bO]; rfl))
    (fun h k => h.trans k) (fun W l o o' hl ho hc _ => KpB.putObj W l o o' (by omega) (by omega) ho hc) (Below.refl _ _) (fun _ => rfl)
    (fun pre W => (∃ v, Boxed W w.heap.size 57 v ∧ W.ownsRow w.heap.size 3 1 v pre.length (intCs pre) ∧ True) ∧ Below w.heap.size w W)
    (fun _ _ _ => False)
    (OwnFrom.and (Own.from (holdsRow_own w.heap.size w.heap.size 57 3 1 (fun pre : List Int => pre.length) (fun pre => intCs pre) (fun _ _ => True)) _) (ownFrom_below (Nat.le_refl _) (by omega)))
    (fun _ _ _ _ _ h _ _ => h)
    ⟨⟨_, bO, World.ownsRow_nil _ _ _ _, trivial⟩, hB0⟩
    (fun t a' _ => a' = { tmps := #[.slice none 0 0, .func (.func gf) #[] lb, .pointer (some ⟨w.heap.size, 0, none⟩), undef, .slice none 0 0, .int .i64 t, .func (.func gf) #[] lb, .int .i64 t, undef, undef, undef, undef, undef], defers := [] })
    (fun t a' _ X Y row hs hg hr => hs)
    ?assign ?body ?done ?stop
  case assign =>
    rintro g pre t W K hi hK
    gi_wp2
    obtain ⟨⟨v, hv, hrow, _⟩, hB⟩ := hi
    exact hK _ _ ⟨Nat.le_refl _, fun _ _ _ h _ => h⟩ ⟨Below.refl _ _, fun _ _ h _ _ _ => h, fun _ h => ⟨.inl h, .inl h⟩, Nat.le_refl _⟩ ⟨⟨v, hv, hrow, trivial⟩, hB⟩ rfl
  case body =>
    rintro g pre t a' W hl ⟨r, hr⟩ ⟨⟨v, hv, hrow, _⟩, hB⟩ rfl hlt
    have hc := hv.cell
    gi_wp2_with (gi_at_builtin; refine wpListIn_app _ intElem6 rfl _ _ rfl w.heap.size v pre.length _ rfl (hrow.alloc _) (W.heap.size + 1) (some ⟨W.heap.size, 0, none⟩) 1 1 [.int .i64 t] rfl rfl (intNew W _) (by simp [Value.oneCell']) (by unfold maxLen; omega) (by omega) (by have := hB.size; simp; omega) ?_; intro A' c' w1 hap; obtain ⟨hv1, hv2, hr2, hk2, hb2, hkp⟩ := kpbI_append hv hrow hB.size (Nat.le_refl _) hap; have hc1 := hv1.cell; have hf1 := hv1.frozen)
    refine ⟨hk2.from _, hkp, ⟨_, hv2, ?_, trivial⟩, hB.trans hb2⟩
    rw [← intCs_snoc, List.length_append]
    exact hr2
  case done =>
    rintro D ys W hD rfl ⟨⟨v, hv, hrow, _⟩, hB⟩ hK
    have hc := hv.cell
    gi_wp2
    refine ⟨by simp, .inl ⟨_, _, rfl, run_takeDeferred hK, ?_⟩⟩
    exact ⟨_, results_tmp rfl _ _ _, v, rfl, ownsRow_putObj hrow _ hK rfl, hB.trans ((Below.refl _ W).grown (grownBy_putObj' W D _) (by have := hB.size; omega) (fun k e => by cases e; omega))⟩
  case stop =>
    rintro D c pre W _ _ h _
    exact h.elim
end Go.Proofs.Ytcfkepahilioaaa
