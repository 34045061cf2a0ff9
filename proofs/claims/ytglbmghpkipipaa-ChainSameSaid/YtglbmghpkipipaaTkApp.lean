/- Layer 11: Split: all tokens, as a row. -/
import Derived.Test.YtglbmghpkipipaaTkIt
import Derived.Maps.AppendAt
namespace Go.Proofs.Ytglbmghpkipipaa
open Go.RowKit Go.Shelf
attribute [local go_sem] Oper.semAt_some

theorem tokElem : Elem Try.prog 24 32 (.agg #[.int .u8 0, .int .i64 0, .int .i64 0]) 3 24 := Elem.of Try.underlying24 (by kernel_rfl) (by kernel_rfl) (by omega)
theorem wpListIn_app {F : Fence} {n : Nat} {P : Program} (w : World) {ops : Array Oper} {rest : List Oper} {o : Oper} {a : Act} {Q : Exit → Act → World → Prop} {t e : TypeId} {z : Value} {size bytes : Nat} (E : Elem P t e z size bytes) (hgd : o.guard = none) (s x : Operand)
    (ho : o.op = .call { callee := .builtin .append, args := #[s, x], argTypes := #[t, t] }) (base : Nat)
    (v : Value) (k : Nat) (xs : List Value) (hs : a.eval s = v) (hown : w.ownsRow base e size v k xs)
    (B : Nat) (A : Option Addr) (m c : Nat) (news : List Value) (hx : a.eval x = .slice A m c) (hl : news.length = m * size) (hr : Cells w B A news) (h1 : ∀ u ∈ news, u.oneCell' = true)
    (h63 : k + m ≤ maxLen) (hbytes : (k + m) * bytes ≤ 140737488355328) (hbase : base ≤ w.heap.size)
    (h : ∀ A' c' w', App w base e size v (k + m) (xs ++ news) w' (.slice A' (k + m) c') → wpListIn F n P ops Q rest (a.put o.dst (.slice A' (k + m) c')) w') : wpListIn F n P ops Q (o :: rest) a w := by
  refine wpListIn_plain hgd fun K hK' => ?_
  obtain ⟨A', c', w', hrun, h2⟩ := run_append_own_any (P := P) w E base o.type v k xs hown B A m c news hl hr h1 h63 hbytes hbase
  unfold Oper.wpIn
  refine ⟨?_, ?_⟩
  · simp [Oper.about, ho, resolve, Target.leads, Sem.run_pure]
  · rw [Oper.semAt_plain F _ _ (by rw [ho]; intro c hc'; cases hc')]
    simp [execOp, ho, resolve, invoke, builtin, hs, hx, hrun, Result.andThen]
    exact hK' _ _ (h A' c' w' h2)
theorem tkC_one (t : Tk) : ∀ u ∈ tkC t, u.oneCell' = true := fun u hu => by
  unfold tkC at hu
  simp only [List.mem_cons, List.not_mem_nil, or_false] at hu
  rcases hu with rfl | rfl | rfl <;> rfl
theorem tkC_cells (W : World) (t : Tk) : Cells (W.alloc (.cells #[.int .u8 (t.1.toNat : Int), .int .i64 (t.2.1 : Int), .int .i64 (t.2.2 : Int)] 32)) (W.heap.size + 1) (some ⟨W.heap.size, 0, none⟩) (tkC t) := fun _ =>
  ⟨W.heap.size, 0, rfl, by omega, fun j u hu => by
    rw [Nat.zero_add, cell_of_row _ W.heap.size j _ _ _ (heap_alloc_new W _), ← Array.getElem?_toList]
    exact hu⟩
theorem ownOf_box {W : World} {B : Nat} {t : TypeId} {v : Value} (h : Boxed W B t v) : ownOf B W = v.ownBlock := by
  unfold ownOf
  rw [h.cell]
  rfl
theorem kpb_append {W w1 : World} {n B : Nat} {v v' : Value} {k m : Nat} {xs ys : List Value} {tmp : Obj} (hv : Boxed W B 24 v) (hrow : W.ownsRow n 32 3 v k xs) (hn : n ≤ W.heap.size) (hB : n ≤ B) (hap : App (W.alloc tmp) n 32 3 v m ys w1 v') :
    Boxed w1 B 24 v ∧ Boxed (w1.setCell ⟨B, 0, none⟩ v') B 24 v' ∧ (w1.setCell ⟨B, 0, none⟩ v').ownsRow n 32 3 v' m ys ∧ KeepsOthers W (w1.setCell ⟨B, 0, none⟩ v') ∧ Below n W (w1.setCell ⟨B, 0, none⟩ v') ∧ KpB n B W (w1.setCell ⟨B, 0, none⟩ v') := by
  obtain ⟨p1, p2, p3, p4, p5⟩ := hv.appended (by decide) hrow hn hB hap.own hap.grow
  have hs1 := hap.grow.size
  have hs2 : W.heap.size + 1 ≤ w1.heap.size := by simpa using hs1
  refine ⟨p1, p2, p3, p4, p5, p5, fun j o hj ho hjB hno => ?_, fun j hj => ?_, p4.size⟩
  · have hlt := (Array.getElem?_eq_some_iff.1 hj).1
    rw [ownOf_box hv] at hno
    exact (Below.heap_setCell w1 ⟨B, 0, none⟩ v' j hjB).trans ((hap.grow.block j (by simp; omega) (fun e => hno e.symm)).trans ((Below.heap_alloc W tmp j hlt).trans hj))
  · rw [ownOf_box p2] at hj
    rw [ownOf_box hv]
    rcases hap.loc with h | ⟨g, h, hg⟩
    · rw [h] at hj; exact ⟨.inl hj, .inl hj⟩
    · rw [h] at hj
      cases hj
      have hlt := own_lt p3 j h
      refine ⟨.inr (by simp at hg; omega), .inr hlt⟩
theorem kpb_alloc {W : World} {n B : Nat} (o : Obj) (hn : n ≤ W.heap.size) (hB : B < W.heap.size) : KpB n B W (W.alloc o) := by
  have he : ownOf B (W.alloc o) = ownOf B W := ownOf_block (Below.heap_alloc W o B hB)
  refine ⟨(Below.refl n W).alloc hn o, fun k p hk _ _ _ => (Below.heap_alloc W o k (Array.getElem?_eq_some_iff.1 hk).1).trans hk, fun k hk => ?_, by simp⟩
  rw [he] at hk
  exact ⟨.inl hk, .inl hk⟩
set_option maxRecDepth 100000 in
set_option maxHeartbeats 4000000 in
theorem appendSeq_any (gf : Nat) (lb : Array Value) (L : List Tk) (hlen : L.length ≤ 4001) (w : World) (eg : ∀ args w, (callFunc gf args).run Try.prog w = .ok (.enter gf args) w)
    (hseq : ∀ W : World, Below w.heap.size w W → w.heap.size < W.heap.size → ownOf w.heap.size W = none → SeqStopsK Fence.wide 5 Try.prog gf lb (fun t : Tk => #[tkV t]) (KpB w.heap.size w.heap.size) (fun xs => xs = L) (fun pre => pre <+: L) 4001 W) :
    Calls Try.prog 36 #[.slice none 0 0, .func (.func gf) #[] lb] w fun e w' => ∃ v, e = .returned v ∧ w'.ownsRow w.heap.size 32 3 v L.length (L.map tkC).flatten ∧ Below w.heap.size w w' := by
  refine (callsIn_wide (n := 6)).1 ?_
  refine callsIn_of_wp_marks Try.func36 rfl trivial ?_ rfl
  simp only [Try.ntmps36, List.size_toArray, List.length_cons, List.length_nil, Nat.reduceAdd, Nat.reduceSub, Array.replicate_succ, Array.replicate_zero, List.push_toArray, List.append_toArray, List.nil_append, List.cons_append]
  gi_wp2
  obtain ⟨W1, hW1⟩ : ∃ W1, w.alloc (.cells #[.slice none 0 0] 24) = W1 := ⟨_, rfl⟩
  have bO : Boxed W1 w.heap.size 24 (.slice none 0 0) := by rw [← hW1]; exact Boxed.new w _ _
  have hB0 : Below w.heap.size w W1 := by rw [← hW1]; exact (Below.refl _ w).alloc (Nat.le_refl _) _
  have hz : W1.heap.size = w.heap.size + 1 := by rw [← hW1]; simp
  rw [hW1]
  clear hW1
  refine wpIn_rangeFunc_ownH rfl (by omega) (gf := gf) (lb := lb) rfl trivial eg (hseq W1 hB0 (by omega) (by rw [ownOf_box bO]; rfl))
    (fun h k => h.trans k) (fun W l o o' hl ho hc _ => KpB.putObj W l o o' (by omega) (by omega) ho hc) (Below.refl _ _) (fun _ => rfl)
    (fun pre W => (∃ v, Boxed W w.heap.size 24 v ∧ W.ownsRow w.heap.size 32 3 v pre.length (pre.map tkC).flatten ∧ True) ∧ Below w.heap.size w W)
    (fun _ _ _ => False)
    (OwnFrom.and (Own.from (holdsRow_own w.heap.size w.heap.size 24 32 3 (fun pre : List Tk => pre.length) (fun pre => (pre.map tkC).flatten) (fun _ _ => True)) _) (ownFrom_below (Nat.le_refl _) (by omega)))
    (fun _ _ _ _ _ h _ _ => h)
    ⟨⟨_, bO, World.ownsRow_nil _ _ _ _, trivial⟩, hB0⟩
    (fun t a' W => ∃ Bx, W.heap[Bx]? = some (.cells #[.int .u8 (t.1.toNat : Int), .int .i64 (t.2.1 : Int), .int .i64 (t.2.2 : Int)] 32) ∧ a' = { tmps := #[.slice none 0 0, .func (.func gf) #[] lb, .pointer (some ⟨w.heap.size, 0, none⟩), undef, .slice none 0 0, .pointer (some ⟨Bx, 0, none⟩), .func (.func gf) #[] lb, tkV t, undef, undef, undef, undef, undef], defers := [] })
    (fun t a' _ X Y row hs hg hr => by
      obtain ⟨Bx, h1, h2⟩ := hs
      refine ⟨Bx, (hg.block Bx (Array.getElem?_eq_some_iff.1 h1).1 (fun e => ?_)).trans h1, h2⟩
      obtain ⟨_, o, ho, hc⟩ := hr Bx e.symm
      rw [h1] at ho; cases ho; cases hc)
    ?assign ?body ?done ?stop
  case assign =>
    rintro g pre ⟨tb, tn, td⟩ W K hi hK
    simp only [tkV]
    gi_wp2
    obtain ⟨⟨v, hv, hrow, _⟩, hB⟩ := hi
    exact hK _ _ ((KeepsOthers.alloc _ _).from _) (kpb_alloc _ hB.size hv.lt) ⟨⟨v, hv.alloc _, hrow.alloc _, trivial⟩, hB.alloc hB.size _⟩ ⟨W.heap.size, heap_alloc_new W _, rfl⟩
  case body =>
    rintro g pre ⟨tb, tn, td⟩ a' W hl ⟨r, hr⟩ ⟨⟨v, hv, hrow, _⟩, hB⟩ ⟨Bx, hx, rfl⟩ hlt
    have hc := hv.cell
    have k0 : W.cell? ⟨Bx, 0, none⟩ = some (.int .u8 (tb.toNat : Int)) := cell_of_row W _ 0 _ _ _ hx
    have k1 : W.cell? ⟨Bx, 1, none⟩ = some (.int .i64 (tn : Int)) := cell_of_row W _ 1 _ _ _ hx
    have k2 : W.cell? ⟨Bx, 2, none⟩ = some (.int .i64 (td : Int)) := cell_of_row W _ 2 _ _ _ hx
    clear hx
    gi_wp2_with (gi_at_builtin; refine wpListIn_app _ tokElem rfl _ _ rfl w.heap.size v pre.length _ rfl (hrow.alloc _) (W.heap.size + 1) (some ⟨W.heap.size, 0, none⟩) 1 1 (tkC (tb, tn, td)) rfl rfl (tkC_cells W (tb, tn, td)) (tkC_one _) (by unfold maxLen; omega) (by omega) (by have := hB.size; simp; omega) ?_; intro A' c' w1 hap; obtain ⟨hv1, hv2, hr2, hk2, hb2, hkp⟩ := kpb_append hv hrow hB.size (Nat.le_refl _) hap; have hc1 := hv1.cell; have hf1 := hv1.frozen)
    exact ⟨hk2.from _, hkp, ⟨_, hv2, by simpa using hr2, trivial⟩, hB.trans hb2⟩
  case done =>
    rintro D ys W hD rfl ⟨⟨v, hv, hrow, _⟩, hB⟩ hK
    have hc := hv.cell
    gi_wp2
    refine ⟨by simp, .inl ⟨_, _, rfl, run_takeDeferred hK, ?_⟩⟩
    exact ⟨_, results_tmp rfl _ _ _, v, rfl, ownsRow_putObj hrow _ hK rfl, hB.trans ((Below.refl _ W).grown (grownBy_putObj' W D _) (by have := hB.size; omega) (fun k e => by cases e; omega))⟩
  case stop =>
    rintro D c pre W _ _ h _
    exact h.elim
end Go.Proofs.Ytglbmghpkipipaa
