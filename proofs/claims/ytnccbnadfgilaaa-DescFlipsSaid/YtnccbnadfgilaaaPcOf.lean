/- Layer 14: codec.Pieces of any bytes. -/
import Derived.Test.YtnccbnadfgilaaaPcIt
import Derived.Maps.AppendAt
namespace Go.Proofs.Ytnccbnadfgilaaa
open Go.RowKit Go.Shelf CrcP FieldP
attribute [local go_sem] Oper.semAt_some

theorem wpListIn_app {F : Fence} {n : Nat} {P : Program} (w : World) {ops : Array Oper} {rest : List Oper} {o : Oper} {a : Act} {Q : Exit → Act → World → Prop} {t e : TypeId} {z : Value} {size bytes : Nat} (E : Elem P t e z size bytes) (hgd : o.guard = none) (s x : Operand)
    (ho : o.op = .call { callee := .builtin .append, args := #[s, x], argTypes := #[t, t] }) (base : Nat)
    (v : Value) (k : Nat) (xs : List Value) (hs : a.eval s = v) (hown : w.ownsRow base e size v k xs)
    (B : Nat) (A : Option Addr) (m c : Nat) (news : List Value) (hx : a.eval x = .slice A m c) (hl : news.length = m * size) (hr : Cells w B A news) (h1 : ∀ u ∈ news, u.oneCell' = true)
    (h63 : k + m ≤ maxLen) (hbytes : (k + m) * bytes ≤ 140737488355328) (hbase : base ≤ w.heap.size)
    (h : ∀ A' c' w', App w base e size v (k + m) (xs ++ news) w' (.slice A' (k + m) c') → wpListIn F n P ops Q rest (a.put o.dst (.slice A' (k + m) c')) w') : wpListIn F n P ops Q (o :: rest) a w := by
  refine wpListIn_plain hgd fun K hK' => ?_
  obtain ⟨A', c', w', hrun, h2⟩ := run_append_own_any (P := P) w E base o.type v k xs hown B A m c news hl hr h1 h63 hbytes hbase
  unfold Oper.wpIn
  refine ⟨?_, ?_⟩
  · simp [Oper.about, ho, resolve, Target.leads, Sem.run_pure]
  · rw [Oper.semAt_plain F _ _ (by rw [ho]; intro c hc'; cases hc')]
    simp [execOp, ho, resolve, invoke, builtin, hs, hx, hrun, Result.andThen]
    exact hK' _ _ (h A' c' w' h2)
theorem ownOf_box {W : World} {B : Nat} {t : TypeId} {v : Value} (h : Boxed W B t v) : ownOf B W = v.ownBlock := by
  unfold ownOf
  rw [h.cell]
  rfl
theorem kpb_append0 {W w1 : World} {n B : Nat} {v v' : Value} {k m : Nat} {xs ys : List Value} (hv : Boxed W B 22 v) (hrow : W.ownsRow n 5 1 v k xs) (hn : n ≤ W.heap.size) (hB : n ≤ B) (hap : App W n 5 1 v m ys w1 v') :
    Boxed w1 B 22 v ∧ Boxed (w1.setCell ⟨B, 0, none⟩ v') B 22 v' ∧ (w1.setCell ⟨B, 0, none⟩ v').ownsRow n 5 1 v' m ys ∧ KeepsOthers W (w1.setCell ⟨B, 0, none⟩ v') ∧ KpB n B W (w1.setCell ⟨B, 0, none⟩ v') := by
  have hv1 : Boxed w1 B 22 v := hv.kept hap.grow (hv.not_row (by decide) hrow)
  have p2 : Boxed (w1.setCell ⟨B, 0, none⟩ v') B 22 v' := hv1.set v'
  have p3 : (w1.setCell ⟨B, 0, none⟩ v').ownsRow n 5 1 v' m ys := hap.own.kept (grownBy_setCell' w1 B v') (.inr (hv1.not_row (by decide) hap.own).symm)
  have p4 : KeepsOthers W (w1.setCell ⟨B, 0, none⟩ v') := by
    refine (KeepsOthers.of_grownBy hap.grow fun j o ej hj => ?_).trans (KeepsOthers.setCell _ _ _)
    rcases hrow.2 with ⟨rfl, _⟩ | ⟨g, cap, cur, rfl, _, hgb, _⟩
    · simp [Value.ownBlock] at ej
    · obtain rfl : g = j := by simpa [Value.ownBlock] using ej
      rw [hgb] at hj; cases hj; rfl
  have p5 : Below n W (w1.setCell ⟨B, 0, none⟩ v') := by
    refine ((Below.refl n W).grown hap.grow hn fun j ej => ?_).setCell (p := ⟨B, 0, none⟩) hB v'
    rcases hrow.2 with ⟨rfl, _⟩ | ⟨g, cap, cur, rfl, hb, _, _⟩
    · simp [Value.ownBlock] at ej
    · obtain rfl : g = j := by simpa [Value.ownBlock] using ej
      exact hb
  have hs1 := hap.grow.size
  refine ⟨hv1, p2, p3, p4, p5, fun j o hj ho hjB hno => ?_, fun j hj => ?_, p4.size⟩
  · have hlt := (Array.getElem?_eq_some_iff.1 hj).1
    rw [ownOf_box hv] at hno
    exact (Below.heap_setCell w1 ⟨B, 0, none⟩ v' j hjB).trans ((hap.grow.block j hlt (fun e => hno e.symm)).trans hj)
  · rw [ownOf_box p2] at hj
    rw [ownOf_box hv]
    rcases hap.loc with h | ⟨g, h, hg⟩
    · rw [h] at hj; exact ⟨.inl hj, .inl hj⟩
    · rw [h] at hj
      cases hj
      have hlt := own_lt p3 j h
      exact ⟨.inr hg, .inr hlt⟩
theorem own_low {w : World} {b b' size n : Nat} {e : TypeId} {v : Value} {xs : List Value} (hb : b' ≤ b) (h : w.ownsRow b e size v n xs) : w.ownsRow b' e size v n xs := by
  obtain ⟨h1, h2⟩ := h
  refine ⟨h1, ?_⟩
  rcases h2 with h2 | ⟨g, cap, cur, hv, hg, rest⟩
  · exact .inl h2
  · exact .inr ⟨g, cap, cur, hv, Nat.le_trans hb hg, rest⟩
/-- The bytes of pieces. -/
def flatP (pre : List PcV) : List UInt8 := (pre.map (·.1)).flatten
theorem flatP_snoc (pre : List PcV) (x : PcV) : flatP (pre ++ [x]) = flatP pre ++ x.1 := by simp [flatP]
/-- What the loop holds. -/
def pcI (N : Nat) (w : World) (pre : List PcV) (W : World) : Prop :=
  (∃ v, Boxed W (N + 1) 22 v ∧ W.ownsRow (N + 1) 5 1 v (flatP pre).length (byteCells (flatP pre))) ∧ (flatP pre).length ≤ pre.length * 1000000 ∧ Below N w W
theorem pcI_own (N M : Nat) (w : World) (hN : N ≤ w.heap.size) (hM : N ≤ M) : OwnS M (fun k => k = N) (pcI N w) := by
  rintro s X Y row ⟨⟨v, hv, hr⟩, hs, hb⟩ hg hrow
  have hne : some (N + 1) ≠ row := fun e => by
    rcases hrow _ e.symm with h | ⟨_, o, ho, hc⟩
    · omega
    · rw [show X.heap[N + 1]? = _ from hv] at ho; cases ho; cases hc
  refine ⟨⟨v, hv.kept hg hne, hr.kept hg ?_⟩, hs, hb.grown hg (Nat.le_trans hN hb.size) (fun k e => (hrow k e).elim (fun h => by omega) (fun h => Nat.le_trans hM h.1))⟩
  rcases hr.2 with ⟨rfl, _⟩ | ⟨g, cap, cur, rfl, hgN, hgb, _⟩
  · exact .inl rfl
  · refine .inr fun e' => ?_
    rcases hrow g (by simpa [Value.ownBlock] using e'.symm) with h | ⟨_, o, ho, hc⟩
    · omega
    · rw [hgb] at ho; cases ho; cases hc
theorem pcX_put (x : PcV) (W : World) (l : Nat) (o o' : Obj) (ho : W.heap[l]? = some o) (hc : o.isCells = false) (h : pcX x W) : pcX x (W.putObj l o') := by
  refine ⟨fun hp => ?_, h.2⟩
  obtain ⟨b, q, e, hb, hcc⟩ := h.1 hp
  exact ⟨b, q, e, by simp [World.putObj]; exact hb, fun j u hu => cell_kept (hcc j u hu) (grownBy_putObj' W l o') (fun r e => by cases e; exact ⟨o, ho, hc⟩)⟩
set_option maxRecDepth 100000 in
set_option maxHeartbeats 2000000 in
theorem piecesOf_any (A : Option Addr) (l c B : Nat) (bs : List UInt8) (w : World) (hl : bs.length = l) (hm : l ≤ 1000000) (hc : l ≤ c) (hb : Bytes w B A bs) (hB : B ≤ w.heap.size) :
    Calls Try.prog 32 #[.slice A l c] w fun e w' => ∃ (v : Value) (n cp : Nat) (A' : Option Addr), e = .returned (.tuple #[v, .int .i64 (pcA bs).2]) ∧ v = .slice A' n cp ∧ ((pcA bs).2 = 0 → OwnB w' w.heap.size 5 v n (pcA bs).1.flatten) ∧ ((pcA bs).2 ≠ 0 → v = .slice none 0 0) ∧ Below w.heap.size w w' := by
  have HB0 := Lib.hid hb
  have HBZ := Lib.hid hB
  have HC0 := Lib.hid hc
  have HL0 := Lib.hid hl
  clear hb hB hc hl
  refine (callsIn_wide (n := 6)).1 ?_
  refine callsIn_of_wp_marks Try.func32 rfl trivial ?_ rfl
  simp only [Try.ntmps32, List.size_toArray, List.length_cons, List.length_nil, Nat.reduceAdd, Nat.reduceSub, Array.replicate_succ, Array.replicate_zero, List.push_toArray, List.append_toArray, List.nil_append, List.cons_append]
  gi_wp2_with (first
    | (refine ⟨trivial, ?_⟩; gi_at_call 27; refine (callsIn_wide.2 (new_any A l c w)).mono ?_; rintro e w1 ⟨rfl, hw1⟩; have HW1 := Lib.hid hw1; clear hw1)
    | (refine ⟨trivial, ?_⟩; gi_at_call 44; refine (callsIn_wide.2 (pieces_any _ _)).mono ?_; rintro e w3 ⟨rfl, hw3⟩; have HW3 := Lib.hid hw3; clear hw3))
  have hz1 : w1.heap.size = w.heap.size + 1 := by rw [← HW1.out]; simp
  have hz3 : w3.heap.size = w.heap.size + 3 := by rw [← HW3.out]; simp [hz1]
  have hr1 : RdS w1 w.heap.size A l c ⟨0, false⟩ := by rw [← HW1.out]; exact rd_new A l c w
  have hb1 : Below w.heap.size w w1 := by rw [← HW1.out]; exact (Below.refl _ w).alloc (Nat.le_refl _) _
  have hb13 : Below w1.heap.size w1 w3 := by rw [← HW3.out]; exact ((Below.refl _ w1).alloc (Nat.le_refl _) _).alloc (by simp) _
  have HR3 : Hid (RdS w3 w.heap.size A l c ⟨0, false⟩) := Rd.below hr1 hb13 (by omega)
  have HC3 : Hid (Boxed w3 w1.heap.size 22 (.slice none 0 0)) := by rw [← HW3.out]; exact (Boxed.new w1 _ _).alloc _
  have HX3 : Hid (Box w3 (w1.heap.size + 1) #[.pointer (some ⟨w.heap.size, 0, none⟩)] 61) := by
    rw [← HW3.out]
    have h := heap_alloc_new (w1.alloc (.cells #[.slice none 0 0] 22)) (.cells #[.pointer (some ⟨w.heap.size, 0, none⟩)] 61)
    rw [World.size_alloc] at h
    exact h
  have HL3 : Hid (Below w.heap.size w w3) := hb1.trans (hb13.mono (by omega))
  have HZ3 := Lib.hid hz3
  rw [hz1] at HC3 HX3 ⊢
  obtain ⟨N, hN⟩ : ∃ N, w.heap.size = N := ⟨_, rfl⟩
  have HNN := Lib.hid hN
  rw [hN] at HR3 HC3 HX3 HZ3 HL3 HBZ ⊢
  have HSEQ := Lib.hid (pieces_seq N (N + 1) N (N + 2) A l c bs w3 HL0.out hm HC0.out (Cells.below (HB0.out.more HBZ.out) HL3.out (Nat.le_refl _)) (Nat.le_refl _) (by omega) (by omega) (by omega) HC3.out.lt (by rw [ownOf_box HC3.out]; rfl) HX3.out HR3.out)
  clear hz1 hz3 hr1 hb1 hb13 HW1 HW3 hN
  rw [show N + 1 + 1 = N + 2 from rfl]
  refine wpIn_rangeFunc_R rfl (by omega) (gf := 54) (lb := #[.pointer (some ⟨N + 2, 0, none⟩)]) rfl trivial (enters_of Try.func54 (by kernel_rfl) rfl) HSEQ.out
    (fun x W l o o' _ ho hc hx => pcX_put x W l o o' ho hc hx)
    (fun xs W l o o' hl ho hc hR => by
      obtain ⟨st, h1, h2⟩ := hR
      exact ⟨st, (World.putObj_heap_other (by have := HZ3.out; omega)).trans h1, h2⟩)
    (fun r hr => by rw [hr]; have := HZ3.out; omega) (fun h k => h.trans k) (fun W l o o' hl ho hc _ => KpB.putObj W l o o' (by have := HZ3.out; omega) (by have := HZ3.out; omega) ho hc) (Below.refl _ _) (fun _ => rfl)
    (pcI N w) (fun _ _ _ => False) (pcI_own N _ w (by rw [HNN.out]; exact Nat.le_refl _) (by have := HZ3.out; omega)) (fun _ _ _ _ _ h _ _ => h)
    ⟨⟨_, HC3.out, World.ownsRow_nil _ _ _ _⟩, Nat.le_refl _, HL3.out⟩
    (fun x => { tmps := #[.slice A l c, undef, .slice none 0 0, .int .i64 0, .pointer (some ⟨N, 0, none⟩), .pointer (some ⟨N + 1, 0, none⟩), .slice x.2.1 x.1.length x.2.2, .slice A l c, .pointer (some ⟨N, 0, none⟩), .pointer (some ⟨N, 0, none⟩), .func (.func 54) #[] #[.pointer (some ⟨N + 2, 0, none⟩)], .slice x.2.1 x.1.length x.2.2, undef, undef, undef, undef, undef, undef, undef, undef, undef, undef], defers := [] }) ?assign ?body ?done ?stop
  case assign =>
    rintro gy ⟨r, A2, k2⟩ W K hK
    simp only [pcE]
    gi_wp2
    exact hK
  case body =>
    rintro gy pre ⟨r, A2, k2⟩ W ⟨⟨v, hv, hr⟩, hs, hb⟩ hx hlen
    have hc := hv.cell
    have hvl := hv.lt
    have hx2 : r.length ≤ 1000000 := hx.2
    have hcr : Cells W W.heap.size A2 (byteCells r) := hx.1
    have hfl : (flatP pre).length ≤ 1000001 * 1000000 := Nat.le_trans hs (Nat.mul_le_mul_right _ (by omega))
    clear hx
    gi_wp2_with (gi_at_builtin; refine wpListIn_app _ byteElem rfl _ _ rfl (N + 1) v (flatP pre).length _ rfl hr W.heap.size A2 r.length k2 (byteCells r) rfl (by simp [byteCells]) hcr (byteCells_one _) (by unfold maxLen; omega) (by omega) (by omega) ?_; intro A' c' w1 hap; obtain ⟨hv1, hv2, hr2, hk2, hkp⟩ := kpb_append0 hv hr (by omega) (Nat.le_refl _) hap; have hc1 := hv1.cell; have hf1 := hv1.frozen)
    refine ⟨hk2, ⟨hkp.low.mono (by omega), hkp.cells, hkp.own, hkp.size⟩, ⟨_, hv2, ?_⟩, ?_, hb.trans (hkp.low.mono (by omega))⟩
    · rw [flatP_snoc, List.length_append, byteCells_append]; exact hr2
    · have hpl : (pre ++ [((r, A2, k2) : PcV)]).length = pre.length + 1 := by simp
      rw [flatP_snoc, List.length_append, hpl]
      show (flatP pre).length + r.length ≤ _
      omega
  case done =>
    rintro D ys W hD hS ⟨⟨v, hv, hr⟩, hs, hb⟩ ⟨st, hst, hfin⟩ hK
    have hys : flatP ys = (pcA bs).1.flatten := by unfold flatP; rw [hS]
    rw [hys] at hr
    have HOK := Lib.hid (ok_any N A l c (st.p : Int) st.bad W hst)
    obtain ⟨A4, c4, rfl⟩ := own_form hr
    obtain ⟨n4, hn4⟩ : ∃ n4, (pcA bs).1.flatten.length = n4 := ⟨_, rfl⟩
    rw [hn4] at hr hv
    have hx5 : ∀ n, (W.drewN n).cell? ⟨N + 1, 0, none⟩ = some (.slice A4 n4 c4) := fun n => hv.cell
    have HR := Lib.hid hr
    have HK := Lib.hid hK
    have HB5 := Lib.hid hb
    have HD := Lib.hid hD
    clear hr hK hs hb hS hys hn4
    have hlow : ∀ W', Below N w W' → W'.heap[D]? = some (.deferred (some [])) → Below w.heap.size w (W'.putObj D (.deferred none)) := fun W' h1 h2 => by
      rw [HNN.out]
      exact h1.trans ((Below.refl N W').grown (grownBy_putObj' W' D _) (by have := (Array.getElem?_eq_some_iff.1 h2).1; have := HD.out; have := HZ3.out; omega) (fun k e => by cases e; have := HD.out; have := HZ3.out; omega))
    have HLOW := Lib.hid hlow
    clear hlow
    rcases hfin with ⟨h1, h2⟩ | ⟨h1, h2, h3⟩ | ⟨h1, h2, h3⟩
    · rw [h1] at HOK
      have HE := Lib.hid h2
      clear h1 h2 hst hv
      gi_wp2_with (first
        | (refine ⟨trivial, ?_⟩; gi_at_call 31; refine (callsIn_wide.2 HOK.out).mono ?_; rintro e w5 ⟨rfl, rfl⟩))
      refine ⟨by simp, .inl ⟨_, _, rfl, run_takeDeferred HK.out, ?_⟩⟩
      exact ⟨.tuple #[.slice none 0 0, .int .i64 2], by simp [results, Try.f32, go_sem], _, 0, 0, none, by rw [HE.out], rfl, fun h => (by rw [HE.out] at h; cases h), fun _ => rfl, HLOW.out W HB5.out HK.out⟩
    · have hst' : Rd W N A l c (st.p : Int) st.bad := hst
      rw [h1] at HOK hst'
      rw [h2] at hst'
      have HLF := Lib.hid (left_any N A l c (l : Int) false W hst' (by omega) (by omega) (by omega))
      have hsub : (l : Int) - (l : Int) = 0 := by omega
      rw [hsub] at HLF
      have HE := Lib.hid h3
      clear h1 h2 h3 hst hst' hv
      gi_wp2_with (first
        | (refine ⟨trivial, ?_⟩; gi_at_call 31; refine (callsIn_wide.2 HOK.out).mono ?_; rintro e w5 ⟨rfl, rfl⟩)
        | (refine ⟨trivial, ?_⟩; gi_at_call 45; refine (callsIn_wide.2 HLF.out).mono ?_; rintro e w6 ⟨rfl, nq, rfl⟩; have hx6 := hx5 nq))
      refine ⟨by simp, .inl ⟨_, _, rfl, run_takeDeferred (show (W.drewN nq).heap[D]? = _ from HK.out), ?_⟩⟩
      refine ⟨.tuple #[.slice A4 n4 c4, .int .i64 0], by simp [results, Try.f32, go_sem], _, n4, c4, A4, by rw [HE.out], rfl, fun _ => ?_, fun h => absurd HE.out h, HLOW.out (W.drewN nq) (below_drewN HB5.out nq) HK.out⟩
      have h5 : (W.drewN nq).ownsRow (N + 1) 5 1 (.slice A4 n4 c4) n4 (byteCells (pcA bs).1.flatten) := HR.out
      have h6 := ownsRow_putObj h5 (.deferred none) (show (W.drewN nq).heap[D]? = _ from HK.out) rfl
      rw [HNN.out]
      exact own_low (by omega) h6
    · have hst' : Rd W N A l c (st.p : Int) st.bad := hst
      rw [h1] at HOK hst'
      have HLF := Lib.hid (left_any N A l c (st.p : Int) false W hst' (by omega) (by omega) (by omega))
      have hpos : 0 < (l : Int) - (st.p : Int) := by omega
      obtain ⟨lf, hlf⟩ : ∃ lf, (l : Int) - (st.p : Int) = lf := ⟨_, rfl⟩
      rw [hlf] at HLF hpos
      have HE := Lib.hid h3
      clear h1 h2 h3 hst hst' hv hlf
      gi_wp2_with (first
        | (refine ⟨trivial, ?_⟩; gi_at_call 31; refine (callsIn_wide.2 HOK.out).mono ?_; rintro e w5 ⟨rfl, rfl⟩)
        | (refine ⟨trivial, ?_⟩; gi_at_call 45; refine (callsIn_wide.2 HLF.out).mono ?_; rintro e w6 ⟨rfl, nq, rfl⟩; have hx6 := hx5 nq))
      refine ⟨by simp, .inl ⟨_, _, rfl, run_takeDeferred (show (W.drewN nq).heap[D]? = _ from HK.out), ?_⟩⟩
      exact ⟨.tuple #[.slice none 0 0, .int .i64 3], by simp [results, Try.f32, go_sem], _, 0, 0, none, by rw [HE.out], rfl, fun h => (by rw [HE.out] at h; cases h), fun _ => rfl, HLOW.out (W.drewN nq) (below_drewN HB5.out nq) HK.out⟩
  case stop =>
    rintro D c pre W _ _ h _
    exact h.elim
end Go.Proofs.Ytnccbnadfgilaaa
