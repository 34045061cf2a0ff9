/- Layer 14: codec.Piece of at most 65535 bytes. -/
import Derived.Test.YtaknladkodibaaaGreatMgQ21535
namespace Go.Proofs.YtaknladkodibaaaGreat
open Go.RowKit Go.Shelf CrcP FieldP
attribute [local go_sem] Oper.semAt_some

theorem wpListIn_appT {F : Fence} {n : Nat} {P : Program} (w : World) {ops : Array Oper} {rest : List Oper} {o : Oper} {a : Act} {Q : Exit → Act → World → Prop} {t e : TypeId} {z : Value} {bytes : Nat} (E : Elem P t e z 1 bytes) (hgd : o.guard = none) (s x : Operand)
    (ho : o.op = .call { callee := .builtin .append, args := #[s, x], argTypes := #[t, t] }) (base : Nat)
    (v : Value) (k : Nat) (xs : List Value) (hs : a.eval s = v) (hown : OwnT w base e v k xs)
    (B : Nat) (A : Option Addr) (m c : Nat) (news : List Value) (hx : a.eval x = .slice A m c) (hl : news.length = m) (hr : Cells w B A news) (h1 : ∀ u ∈ news, u.oneCell' = true)
    (h63 : k + m ≤ maxLen) (hbytes : (k + m) * bytes ≤ 140737488355328) (hbase : base ≤ w.heap.size)
    (h : ∀ A' c' w', AppT w base e v (k + m) (xs ++ news) w' (.slice A' (k + m) c') → wpListIn F n P ops Q rest (a.put o.dst (.slice A' (k + m) c')) w') : wpListIn F n P ops Q (o :: rest) a w := by
  refine wpListIn_plain hgd fun K hK' => ?_
  obtain ⟨A', c', w', hrun, h2⟩ := run_appT (P := P) w E base o.type v k xs hown B A m c news hl hr h1 h63 hbytes hbase
  unfold Oper.wpIn
  refine ⟨?_, ?_⟩
  · simp [Oper.about, ho, resolve, Target.leads, Sem.run_pure]
  · rw [Oper.semAt_plain F _ _ (by rw [ho]; intro c hc'; cases hc')]
    simp [execOp, ho, resolve, invoke, builtin, hs, hx, hrun, Result.andThen]
    exact hK' _ _ (h A' c' w' h2)
set_option maxHeartbeats 400000 in
theorem cput_any (v : Value) (l : Nat) (bs : List UInt8) (n base : Nat) (w : World) (hl : l ≤ 1099511627776) (hn : n < 4294967296) (hown : OwnY w base v l bs) (hbase : base ≤ w.heap.size) :
    Calls Tryz.prog 12 #[v, .int .i64 (n : Int)] w fun e w' => ∃ A c, e = .returned (.slice A (l + 2) c) ∧ AppB w base v (l + 2) (bs ++ putN n 2) w' (.slice A (l + 2) c) := by
  have HP := Lib.hid (put_any v l bs (n : Int) 2 base w hl (by omega) (by omega) (by omega) (by omega) hown hbase)
  have hw1 : IntKind.u32.wrap (n : Int) = (n : Int) := IntWalk.u32_in _ (by omega)
  clear hown
  go_enter Tryz.func12, Tryz.ntmps12
  go_wp2_with fail
  refine HP.out.mono ?_
  rintro e w1 ⟨A, c, rfl, hap⟩
  go_wp2
  go_ret
  exact ⟨A, c, rfl, hap⟩
/-- The piece of a row of bytes. -/
def pieceB (bs : List UInt8) : List UInt8 := if bs = [] then [] else putN bs.length 2 ++ bs
/-- What the loop holds. -/
def pcJ (N : Nat) (w : World) (pre : List PcV) (W : World) : Prop :=
  ((pre = [] ∧ Boxed W N 23 (.slice none 0 0)) ∨ ∃ (x : PcV) (v : Value), pre = [x] ∧ Boxed W N 23 v ∧ OwnY W (N + 1) v (2 + x.1.length) (putN x.1.length 2 ++ x.1)) ∧ Below N w W
theorem pcJ_own (N M : Nat) (w : World) (hN : N ≤ w.heap.size) (hM : N ≤ M) : OwnS M (fun _ => False) (pcJ N w) := by
  rintro s X Y row ⟨hj, hb⟩ hg hrow
  have cells_ne : ∀ (k : Nat) (o : Obj), X.heap[k]? = some o → o.isCells = true → some k ≠ row := fun k o ho hc e => by
    rcases hrow _ e.symm with h | ⟨_, o', ho', hc'⟩
    · exact h
    · rw [ho] at ho'; cases ho'; rw [hc] at hc'; cases hc'
  refine ⟨?_, hb.grown hg (Nat.le_trans hN hb.size) (fun k e => (hrow k e).elim (fun h => h.elim) (fun h => Nat.le_trans hM h.1))⟩
  rcases hj with ⟨h1, hv⟩ | ⟨x, v, h1, hv, ho⟩
  · exact .inl ⟨h1, hv.kept hg (cells_ne N _ hv rfl)⟩
  · refine .inr ⟨x, v, h1, hv.kept hg (cells_ne N _ hv rfl), ?_⟩
    refine OwnT.keep (S := fun k => row = some k) ho ⟨hg.os, hg.tape, hg.output, hg.size, fun k hk hn => hg.block k hk (fun e => hn e.symm)⟩ (fun k hk e => ?_)
    rcases ho.2 with ⟨rfl, _⟩ | ⟨g, cap, cur, fz, rfl, _, hgb, _⟩
    · cases hk
    · obtain rfl : g = k := by unfold ownS at hk; simpa [Value.ownBlock] using hk
      exact cells_ne g _ hgb rfl e.symm
set_option maxRecDepth 100000 in
set_option maxHeartbeats 2000000 in
theorem piece_any (A : Option Addr) (l c B : Nat) (bs : List UInt8) (w : World) (hl : bs.length = l) (hm : l ≤ 65535) (hc : l ≤ c) (hb : Bytes w B A bs) (hB : B ≤ w.heap.size) :
    Calls Tryz.prog 6 #[.slice A l c] w fun e w' => ∃ A' n c', e = .returned (.slice A' n c') ∧ OwnY w' w.heap.size (.slice A' n c') n (pieceB bs) ∧ Below w.heap.size w w' := by
  have HB0 := Lib.hid hb
  have HBZ := Lib.hid hB
  have HC0 := Lib.hid hc
  have HL0 := Lib.hid hl
  clear hb hB hc hl
  refine (callsIn_wide (n := 6)).1 ?_
  refine callsIn_of_wp_marks Tryz.func6 rfl trivial ?_ rfl
  simp only [Tryz.ntmps6, List.size_toArray, List.length_cons, List.length_nil, Nat.reduceAdd, Nat.reduceSub, Array.replicate_succ, Array.replicate_zero, List.push_toArray, List.append_toArray, List.nil_append, List.cons_append]
  obtain ⟨W1, hW1⟩ : ∃ W1, w.alloc (.cells #[.slice none 0 0] 23) = W1 := ⟨_, rfl⟩
  have HV1 : Hid (Boxed W1 w.heap.size 23 (.slice none 0 0)) := by show Boxed _ _ _ _; rw [← hW1]; exact Boxed.new w _ _
  have HZ1 : Hid (W1.heap.size = w.heap.size + 1) := by show _ = _; rw [← hW1]; simp
  have HB1 : Hid (Below w.heap.size w W1) := by show Below _ _ _; rw [← hW1]; exact (Below.refl _ w).alloc (Nat.le_refl _) _
  gi_wp2_with (first
    | (refine ⟨trivial, ?_⟩; gi_at_call 11; refine (callsIn_wide.2 (chunk_any A l c _)).mono ?_; rintro e w3 ⟨rfl, hw3⟩; have HW3 := Lib.hid hw3; clear hw3))
  obtain ⟨N, hN⟩ : ∃ N, w.heap.size = N := ⟨_, rfl⟩
  have HNN := Lib.hid hN
  have hz1 := HZ1.out
  rw [hN] at HV1 HZ1 HB1 HBZ hz1 ⊢
  have hz3 : w3.heap.size = N + 3 := by rw [← HW3.out]; simp [hz1]
  have hb13 : Below W1.heap.size W1 w3 := by rw [← HW3.out]; exact ((Below.refl _ W1).alloc (Nat.le_refl _) _).alloc (by simp) _
  have HV3 : Hid (Boxed w3 N 23 (.slice none 0 0)) := by show Boxed _ _ _ _; rw [← HW3.out]; exact (HV1.out.alloc _).alloc _
  have HL3 : Hid (Below N w w3) := HB1.out.trans (hb13.mono (by omega))
  have hx1 : w3.heap[N + 1]? = some (.cells #[.slice A l c] 23 (0, 0)) := by
    rw [← HW3.out, ← hz1]
    exact (Below.heap_alloc _ _ _ (by simp)).trans (heap_alloc_new W1 _)
  have hx2 : w3.heap[N + 2]? = some (.cells #[.int .i64 65535] 3 (0, 0)) := by
    rw [← HW3.out]
    have h := heap_alloc_new (W1.alloc (.cells #[.slice A l c] 23)) (.cells #[.int .i64 65535] 3)
    rw [World.size_alloc, hz1] at h
    exact h
  have HSEQ := Lib.hid (chunk_seq N N (N + 1) (N + 2) A l c bs w3 HL0.out hm HC0.out (Cells.below (HB0.out.more HBZ.out) HL3.out (Nat.le_refl _)) (by omega) (by omega) (by omega) (by omega) (by rw [ownOf_box HV3.out]; rfl) hx1 hx2)
  have HZ3 := Lib.hid hz3
  rw [hz1, show N + 1 + 1 = N + 2 from rfl]
  clear hz1 hz3 hb13 hx1 hx2 HW3 hN hW1 HV1 HB1 HZ1
  refine wpIn_rangeFunc_R rfl (by omega) (gf := 21) (lb := #[.pointer (some ⟨N + 1, 0, none⟩), .pointer (some ⟨N + 2, 0, none⟩)]) rfl trivial (enters_of Tryz.func21 (by kernel_rfl) rfl) HSEQ.out
    (fun x W l o o' _ ho hc hx => pcX_put x W l o o' ho hc hx) (fun _ _ _ _ _ _ _ _ _ => trivial)
    (fun r hr => hr.elim) (fun h k => h.trans k) (fun W l o o' hl ho hc _ => KpB.putObj W l o o' (by have := HZ3.out; omega) (by have := HZ3.out; omega) ho hc) (Below.refl _ _) (fun _ => rfl)
    (pcJ N w) (fun _ _ _ => False) (pcJ_own N _ w (by rw [HNN.out]; exact Nat.le_refl _) (by have := HZ3.out; omega)) (fun _ _ _ _ _ h _ _ => h)
    ⟨.inl ⟨rfl, HV3.out⟩, HL3.out⟩
    (fun x => { tmps := #[.slice A l c, undef, .slice none 0 0, .pointer (some ⟨N, 0, none⟩), .slice x.2.1 x.1.length x.2.2, .slice A l c, .func (.func 21) #[] #[.pointer (some ⟨N + 1, 0, none⟩), .pointer (some ⟨N + 2, 0, none⟩)], .slice x.2.1 x.1.length x.2.2, undef, undef, undef, undef, undef, undef, undef], defers := [] }) ?assign ?body ?done ?stop
  case assign =>
    rintro gy ⟨r, A2, k2⟩ W K hK
    simp only [pcE]
    gi_wp2
    exact hK
  case body =>
    rintro gy pre ⟨r, A2, k2⟩ W ⟨hj, hb⟩ hx hlen
    obtain rfl : pre = [] := List.eq_nil_of_length_eq_zero (by omega)
    have hv : Boxed W N 23 (.slice none 0 0) := by
      rcases hj with ⟨_, hv⟩ | ⟨_, _, h, _⟩
      · exact hv
      · cases h
    have hc := hv.cell
    have hvl := hv.lt
    have hx2 : r.length ≤ 1000000 := hx.2
    have hcr : Cells W W.heap.size A2 (byteCells r) := hx.1
    have HCP := Lib.hid (cput_any (.slice none 0 0) 0 [] r.length (N + 1) W (by omega) (by omega) (OwnT.nil _ _ _) (by omega))
    have HV := Lib.hid hv
    have HB := Lib.hid hb
    clear hj hx hb
    gi_wp2_with (first
      | (refine ⟨trivial, ?_⟩; gi_at_call 12; refine (CallsIn.inRound gy (callsIn_wide.2 HCP.out)).mono ?_; rintro e w1 ⟨A1, c1, rfl, hap1⟩; have HAP1 := Lib.hid hap1; have hs1 := hap1.grow.size; have hcr1 : Cells w1 W.heap.size A2 (byteCells r) := Cells.below hcr ⟨hap1.grow.os, hap1.grow.tape, hap1.grow.output, hap1.grow.size, fun k hk => hap1.grow.block k hk (by simp [Value.ownBlock])⟩ (Nat.le_refl _); clear hap1)
      | (gi_at_builtin; refine wpListIn_appT _ byteElem rfl _ _ rfl (N + 1) (.slice A1 (0 + 2) c1) (0 + 2) (byteCells ([] ++ putN r.length 2)) rfl HAP1.out.own W.heap.size A2 r.length k2 (byteCells r) rfl (by simp [byteCells]) hcr1 (byteCells_one _) (by unfold maxLen; omega) (by omega) (by omega) ?_; intro A3 c3 w2 hap2; have HAP := Lib.hid (HAP1.out.trans hap2); have hv2 : Boxed w2 N 23 (.slice none 0 0) := HV.out.kept HAP.out.grow (by simp [Value.ownBlock]); have hc2 := hv2.cell; have hf2 := hv2.frozen; clear hap2))
    have hap := HAP.out
    have hnil : (Value.slice none 0 0).ownBlock = none := rfl
    have hlow : Below N W (w2.setCell ⟨N, 0, none⟩ (.slice A3 (2 + r.length) c3)) := ((Below.refl N W).grown hap.grow (by omega) (fun k e => by rw [hnil] at e; cases e)).setCell (p := ⟨N, 0, none⟩) (Nat.le_refl _) _
    have p2 : Boxed (w2.setCell ⟨N, 0, none⟩ (.slice A3 (2 + r.length) c3)) N 23 (.slice A3 (2 + r.length) c3) := hv2.set _
    have hown : OwnY w2 (N + 1) (.slice A3 (2 + r.length) c3) (2 + r.length) (putN r.length 2 ++ r) := by
      have h := hap.own
      rw [List.nil_append, ← byteCells_append, Nat.zero_add] at h
      exact h
    have hown2 : OwnY (w2.setCell ⟨N, 0, none⟩ (.slice A3 (2 + r.length) c3)) (N + 1) (.slice A3 (2 + r.length) c3) (2 + r.length) (putN r.length 2 ++ r) :=
      hown.keep ((Mod.refl (oneB N) w2).set ⟨N, 0, none⟩ _ (.inl rfl)) (fun k hk e => by have := (hown.lt k hk).1; have e2 : k = N := e; omega)
    have p4 : KeepsOthers W (w2.setCell ⟨N, 0, none⟩ (.slice A3 (2 + r.length) c3)) := (KeepsOthers.of_grownBy hap.grow (fun j o ej _ => by rw [hnil] at ej; cases ej)).trans (KeepsOthers.setCell _ _ _)
    refine ⟨p4, ⟨hlow, fun j o hj ho hjB _ => ?_, fun j hj => ?_, p4.size⟩, .inr ⟨(r, A2, k2), _, rfl, p2, hown2⟩, HB.out.trans hlow⟩
    · have hlt := (Array.getElem?_eq_some_iff.1 hj).1
      exact (Below.heap_setCell w2 ⟨N, 0, none⟩ _ j hjB).trans ((hap.grow.block j hlt (by rw [hnil]; simp)).trans hj)
    · rw [ownOf_box p2] at hj
      have hlt := (hown2.lt j hj).2
      rcases hap.loc with h | ⟨g, h, hg⟩
      · rw [hnil, Nat.zero_add] at h
        rw [h] at hj
        cases hj
      · rw [Nat.zero_add] at h
        rw [h] at hj
        cases hj
        exact ⟨.inr hg, .inr hlt⟩
  case done =>
    rintro D ys W hD hS ⟨hj, hb⟩ _ hK
    have HLOW : Hid (Below w.heap.size w (W.putObj D (.deferred none))) := by
      show Below _ _ _
      rw [HNN.out]
      exact hb.trans ((Below.refl N W).grown (grownBy_putObj' W D _) (by have := (Array.getElem?_eq_some_iff.1 hK).1; have := HZ3.out; omega) (fun k e => by cases e; have := HZ3.out; omega))
    rcases hj with ⟨rfl, hv⟩ | ⟨x, v, rfl, hv, ho⟩
    · have hbs : bs = [] := by
        unfold ckS at hS
        split at hS
        · assumption
        · cases hS
      have hpb : pieceB bs = [] := by unfold pieceB; rw [if_pos hbs]
      have hc := hv.cell
      clear hv hS hbs hb
      gi_wp2
      refine ⟨by simp, .inl ⟨_, _, rfl, run_takeDeferred hK, ?_⟩⟩
      exact ⟨_, results_tmp rfl _ _ _, none, 0, 0, rfl, by rw [hpb]; exact OwnT.nil _ _ _, HLOW.out⟩
    · have hbs : x.1 = bs ∧ bs ≠ [] := by
        unfold ckS at hS
        split at hS
        · cases hS
        · rename_i h
          have := List.cons.inj hS
          exact ⟨this.1, h⟩
      have hpb : pieceB bs = putN x.1.length 2 ++ x.1 := by unfold pieceB; rw [if_neg hbs.2, hbs.1]
      obtain ⟨A4, c4, rfl⟩ := ho.form
      have hc := hv.cell
      have HO := Lib.hid ho
      clear hv hS hbs hb ho
      gi_wp2
      refine ⟨by simp, .inl ⟨_, _, rfl, run_takeDeferred hK, ?_⟩⟩
      refine ⟨_, results_tmp rfl _ _ _, A4, 2 + x.1.length, c4, rfl, ?_, HLOW.out⟩
      rw [hpb, HNN.out]
      refine (HO.out.le (Nat.le_succ N)).keep (S := fun k => k = D) ⟨rfl, rfl, rfl, by simp [World.putObj], fun k _ hn => World.putObj_heap_other hn⟩ (fun k hk e => ?_)
      rcases HO.out.2 with ⟨h, _⟩ | ⟨g, cap, cur, fz, h, _, hgb, _⟩
      · rw [h] at hk; cases hk
      · rw [h] at hk
        obtain rfl : g = k := by unfold ownS at hk; simpa [Value.ownBlock] using hk
        rw [e, hK] at hgb
        cases hgb
  case stop =>
    rintro D c pre W _ _ h _
    exact h.elim
end Go.Proofs.YtaknladkodibaaaGreat
/- Layer 14: codec.Piece of more than 65535 bytes, and at most twice as many: some row. -/
namespace Go.Proofs.YtaknladkodibaaaGreat
open Go.RowKit Go.Shelf CrcP FieldP
attribute [local go_sem] Oper.semAt_some

theorem kpb_appendT {W w1 : World} {B : Nat} {v v' : Value} {k m : Nat} {xs ys : List Value} (hv : Boxed W B 23 v) (hrow : OwnT W (B + 1) 5 v k xs) (hap : AppT W (B + 1) 5 v m ys w1 v') :
    Boxed w1 B 23 v ∧ Boxed (w1.setCell ⟨B, 0, none⟩ v') B 23 v' ∧ OwnT (w1.setCell ⟨B, 0, none⟩ v') (B + 1) 5 v' m ys ∧ KeepsOthers W (w1.setCell ⟨B, 0, none⟩ v') ∧ KpB B B W (w1.setCell ⟨B, 0, none⟩ v') := by
  have hne : ∀ k, v.ownBlock = some k → B + 1 ≤ k := fun k hk => (hrow.lt k hk).1
  have hlt0 := hv.lt
  have hv1 : Boxed w1 B 23 v := hv.kept hap.grow (fun e => by have := hne B e.symm; omega)
  have p2 : Boxed (w1.setCell ⟨B, 0, none⟩ v') B 23 v' := hv1.set v'
  have p3 : OwnT (w1.setCell ⟨B, 0, none⟩ v') (B + 1) 5 v' m ys := hap.own.keep ((Mod.refl (oneB B) w1).set ⟨B, 0, none⟩ _ (.inl rfl)) (fun k hk e => by have := (hap.own.lt k hk).1; have e2 : k = B := e; omega)
  have p4 : KeepsOthers W (w1.setCell ⟨B, 0, none⟩ v') := by
    refine (KeepsOthers.of_grownBy hap.grow fun j o ej hj => ?_).trans (KeepsOthers.setCell _ _ _)
    rcases hrow.2 with ⟨rfl, _⟩ | ⟨g, cap, cur, fz, rfl, _, hgb, _⟩
    · simp [Value.ownBlock] at ej
    · obtain rfl : g = j := by simpa [Value.ownBlock] using ej
      rw [hgb] at hj; cases hj; rfl
  have p5 : Below B W (w1.setCell ⟨B, 0, none⟩ v') := ((Below.refl B W).grown hap.grow (by omega) (fun k e => by have := hne k e; omega)).setCell (p := ⟨B, 0, none⟩) (Nat.le_refl _) _
  refine ⟨hv1, p2, p3, p4, p5, fun j o hj ho hjB hno => ?_, fun j hj => ?_, p4.size⟩
  · have hlt := (Array.getElem?_eq_some_iff.1 hj).1
    rw [ownOf_box hv] at hno
    exact (Below.heap_setCell w1 ⟨B, 0, none⟩ v' j hjB).trans ((hap.grow.block j hlt (fun e => hno e.symm)).trans hj)
  · rw [ownOf_box p2] at hj
    rw [ownOf_box hv]
    rcases hap.loc with h | ⟨g, h, hg⟩
    · rw [h] at hj; exact ⟨.inl hj, .inl hj⟩
    · rw [h] at hj
      cases hj
      have hlt := (p3.lt _ h).2
      exact ⟨.inr hg, .inr hlt⟩
theorem pcXn_put (n : Nat) (x : PcV) (W : World) (l : Nat) (o o' : Obj) (ho : W.heap[l]? = some o) (hc : o.isCells = false) (h : pcXn n x W) : pcXn n x (W.putObj l o') := by
  refine ⟨fun hp => ?_, h.2⟩
  obtain ⟨b, q, e, hb, hcc⟩ := h.1 hp
  exact ⟨b, q, e, hb, fun j u hu => cell_kept (hcc j u hu) (grownBy_putObj' W l o') (fun r e => by cases e; exact ⟨o, ho, hc⟩)⟩
/-- What the loop holds: some row, not too long. -/
def pcJw (N : Nat) (w : World) (pre : List PcV) (W : World) : Prop :=
  (∃ (v : Value) (m : Nat) (ys : List UInt8), Boxed W N 23 v ∧ OwnY W (N + 1) v m ys ∧ m ≤ 70000 * pre.length) ∧ Below N w W
theorem pcJw_own (N M : Nat) (w : World) (hN : N ≤ w.heap.size) (hM : N ≤ M) : OwnS M (fun _ => False) (pcJw N w) := by
  rintro s X Y row ⟨⟨v, m, ys, hv, ho, hm⟩, hb⟩ hg hrow
  have cells_ne : ∀ (k : Nat) (o : Obj), X.heap[k]? = some o → o.isCells = true → some k ≠ row := fun k o ho hc e => by
    rcases hrow _ e.symm with h | ⟨_, o', ho', hc'⟩
    · exact h
    · rw [ho] at ho'; cases ho'; rw [hc] at hc'; cases hc'
  refine ⟨⟨v, m, ys, hv.kept hg (cells_ne N _ hv rfl), ?_, hm⟩, hb.grown hg (Nat.le_trans hN hb.size) (fun k e => (hrow k e).elim (fun h => h.elim) (fun h => Nat.le_trans hM h.1))⟩
  refine OwnT.keep (S := fun k => row = some k) ho ⟨hg.os, hg.tape, hg.output, hg.size, fun k hk hn => hg.block k hk (fun e => hn e.symm)⟩ (fun k hk e => ?_)
  rcases ho.2 with ⟨rfl, _⟩ | ⟨g, cap, cur, fz, rfl, _, hgb, _⟩
  · cases hk
  · obtain rfl : g = k := by unfold ownS at hk; simpa [Value.ownBlock] using hk
    exact cells_ne g _ hgb rfl e.symm
set_option maxRecDepth 100000 in
set_option maxHeartbeats 2000000 in
theorem piece_wide (A : Option Addr) (l c B : Nat) (bs : List UInt8) (w : World) (hl : bs.length = l) (hm0 : 65535 < l) (hm : l ≤ 131070) (hc : l ≤ c) (hb : Bytes w B A bs) (hB : B ≤ w.heap.size) :
    Calls Tryz.prog 6 #[.slice A l c] w fun e w' => ∃ A' n c' ys, e = .returned (.slice A' n c') ∧ n ≤ 140000 ∧ OwnY w' w.heap.size (.slice A' n c') n ys ∧ Below w.heap.size w w' := by
  have HB0 := Lib.hid hb
  have HBZ := Lib.hid hB
  have HC0 := Lib.hid hc
  have HL0 := Lib.hid hl
  clear hb hB hc hl
  refine (callsIn_wide (n := 6)).1 ?_
  refine callsIn_of_wp_marks Tryz.func6 rfl trivial ?_ rfl
  simp only [Tryz.ntmps6, List.size_toArray, List.length_cons, List.length_nil, Nat.reduceAdd, Nat.reduceSub, Array.replicate_succ, Array.replicate_zero, List.push_toArray, List.append_toArray, List.nil_append, List.cons_append]
  obtain ⟨W1, hW1⟩ : ∃ W1, w.alloc (.cells #[.slice none 0 0] 23) = W1 := ⟨_, rfl⟩
  have HV1 : Hid (Boxed W1 w.heap.size 23 (.slice none 0 0)) := by show Boxed _ _ _ _; rw [← hW1]; exact Boxed.new w _ _
  have HZ1 : Hid (W1.heap.size = w.heap.size + 1) := by show _ = _; rw [← hW1]; simp
  have HB1 : Hid (Below w.heap.size w W1) := by show Below _ _ _; rw [← hW1]; exact (Below.refl _ w).alloc (Nat.le_refl _) _
  gi_wp2_with (first
    | (refine ⟨trivial, ?_⟩; gi_at_call 11; refine (callsIn_wide.2 (chunk_any A l c _)).mono ?_; rintro e w3 ⟨rfl, hw3⟩; have HW3 := Lib.hid hw3; clear hw3))
  obtain ⟨N, hN⟩ : ∃ N, w.heap.size = N := ⟨_, rfl⟩
  have HNN := Lib.hid hN
  have hz1 := HZ1.out
  rw [hN] at HV1 HZ1 HB1 HBZ hz1 ⊢
  have hz3 : w3.heap.size = N + 3 := by rw [← HW3.out]; simp [hz1]
  have hb13 : Below W1.heap.size W1 w3 := by rw [← HW3.out]; exact ((Below.refl _ W1).alloc (Nat.le_refl _) _).alloc (by simp) _
  have HV3 : Hid (Boxed w3 N 23 (.slice none 0 0)) := by show Boxed _ _ _ _; rw [← HW3.out]; exact (HV1.out.alloc _).alloc _
  have HL3 : Hid (Below N w w3) := HB1.out.trans (hb13.mono (by omega))
  have hx1 : w3.heap[N + 1]? = some (.cells #[.slice A l c] 23 (0, 0)) := by
    rw [← HW3.out, ← hz1]
    exact (Below.heap_alloc _ _ _ (by simp)).trans (heap_alloc_new W1 _)
  have hx2 : w3.heap[N + 2]? = some (.cells #[.int .i64 65535] 3 (0, 0)) := by
    rw [← HW3.out]
    have h := heap_alloc_new (W1.alloc (.cells #[.slice A l c] 23)) (.cells #[.int .i64 65535] 3)
    rw [World.size_alloc, hz1] at h
    exact h
  have HSEQ := Lib.hid (chunk_seq2 N N (N + 1) (N + 2) A l c bs w3 HL0.out hm0 hm HC0.out (Cells.below (HB0.out.more HBZ.out) HL3.out (Nat.le_refl _)) (by omega) (by omega) (by omega) (by omega) (by rw [ownOf_box HV3.out]; rfl) hx1 hx2)
  have HZ3 := Lib.hid hz3
  rw [hz1, show N + 1 + 1 = N + 2 from rfl]
  clear hz1 hz3 hb13 hx1 hx2 HW3 hN hW1 HV1 HB1 HZ1
  refine wpIn_rangeFunc_R rfl (by omega) (gf := 21) (lb := #[.pointer (some ⟨N + 1, 0, none⟩), .pointer (some ⟨N + 2, 0, none⟩)]) rfl trivial (enters_of Tryz.func21 (by kernel_rfl) rfl) HSEQ.out
    (fun x W l o o' _ ho hc hx => pcXn_put N x W l o o' ho hc hx) (fun _ _ _ _ _ _ _ _ _ => trivial)
    (fun r hr => hr.elim) (fun h k => h.trans k) (fun W l o o' hl ho hc _ => KpB.putObj W l o o' (by have := HZ3.out; omega) (by have := HZ3.out; omega) ho hc) (Below.refl _ _) (fun _ => rfl)
    (pcJw N w) (fun _ _ _ => False) (pcJw_own N _ w (by rw [HNN.out]; exact Nat.le_refl _) (by have := HZ3.out; omega)) (fun _ _ _ _ _ h _ _ => h)
    ⟨⟨_, 0, [], HV3.out, OwnT.nil _ _ _, by omega⟩, HL3.out⟩
    (fun x => { tmps := #[.slice A l c, undef, .slice none 0 0, .pointer (some ⟨N, 0, none⟩), .slice x.2.1 x.1.length x.2.2, .slice A l c, .func (.func 21) #[] #[.pointer (some ⟨N + 1, 0, none⟩), .pointer (some ⟨N + 2, 0, none⟩)], .slice x.2.1 x.1.length x.2.2, undef, undef, undef, undef, undef, undef, undef], defers := [] }) ?assign ?body ?done ?stop
  case assign =>
    rintro gy ⟨r, A2, k2⟩ W K hK
    simp only [pcE]
    gi_wp2
    exact hK
  case body =>
    rintro gy pre ⟨r, A2, k2⟩ W ⟨⟨v, m, ys, hv, ho, hm2⟩, hb⟩ hx hlen
    obtain ⟨A0, c0, rfl⟩ := ho.form
    have hc := hv.cell
    have hvl := hv.lt
    have hm3 : m ≤ 140000 := by omega
    have hx2 : r.length ≤ 65535 := hx.2
    have hbr : Bytes W N A2 r := hx.1
    have HCP := Lib.hid (cput_any (.slice A0 m c0) m ys r.length (N + 1) W (by omega) (by omega) ho (by omega))
    have HV := Lib.hid hv
    have HB := Lib.hid hb
    have HO := Lib.hid ho
    have HBR := Lib.hid hbr
    have HM2 := Lib.hid hm2
    clear hx hb hv ho hbr hm2
    gi_wp2_with (first
      | (refine ⟨trivial, ?_⟩; gi_at_call 12; refine (CallsIn.inRound gy (callsIn_wide.2 HCP.out)).mono ?_; rintro e w1 ⟨A1, c1, rfl, hap1⟩; have HAP1 := Lib.hid hap1; have hs1 := hap1.grow.size; have hcr1 : Cells w1 N A2 (byteCells r) := Cells.below HBR.out ((Below.refl N W).grown hap1.grow (by omega) (fun k e => by have := (HO.out.lt k e).1; omega)) (Nat.le_refl _); clear hap1)
      | (gi_at_builtin; refine wpListIn_appT _ byteElem rfl _ _ rfl (N + 1) (.slice A1 (m + 2) c1) (m + 2) (byteCells (ys ++ putN r.length 2)) rfl HAP1.out.own N A2 r.length k2 (byteCells r) rfl (by simp [byteCells]) hcr1 (byteCells_one _) (by unfold maxLen; omega) (by omega) (by omega) ?_; intro A3 c3 w2 hap2; have HAP := Lib.hid (HAP1.out.trans hap2); obtain ⟨hv2, hv3, ho3, hk3, hkp3⟩ := kpb_appendT HV.out HO.out HAP.out; have hc2 := hv2.cell; have hf2 := hv2.frozen; clear hap2))
    refine ⟨hk3, ⟨hkp3.low, hkp3.cells, hkp3.own, hkp3.size⟩, ⟨_, m + 2 + r.length, ys ++ putN r.length 2 ++ r, hv3, ?_, ?_⟩, HB.out.trans hkp3.low⟩
    · unfold OwnY
      rw [byteCells_append]
      exact ho3
    · have hpl : (pre ++ [((r, A2, k2) : PcV)]).length = pre.length + 1 := by simp
      rw [hpl]
      have := HM2.out
      omega
  case done =>
    rintro D ys W hD hS ⟨⟨v, m, zs, hv, ho, hm2⟩, hb⟩ _ hK
    have HLOW : Hid (Below w.heap.size w (W.putObj D (.deferred none))) := by
      show Below _ _ _
      rw [HNN.out]
      exact hb.trans ((Below.refl N W).grown (grownBy_putObj' W D _) (by have := (Array.getElem?_eq_some_iff.1 hK).1; have := HZ3.out; omega) (fun k e => by cases e; have := HZ3.out; omega))
    obtain ⟨A4, c4, rfl⟩ := ho.form
    have hc := hv.cell
    have HO := Lib.hid ho
    have hm3 : m ≤ 140000 := by
      have hS' : ys.length = 2 := hS
      omega
    clear hv hS hb ho hm2
    gi_wp2
    refine ⟨by simp, .inl ⟨_, _, rfl, run_takeDeferred hK, ?_⟩⟩
    refine ⟨_, results_tmp rfl _ _ _, A4, m, c4, zs, rfl, hm3, ?_, HLOW.out⟩
    rw [HNN.out]
    refine (HO.out.le (Nat.le_succ N)).keep (S := fun k => k = D) ⟨rfl, rfl, rfl, by simp [World.putObj], fun k _ hn => World.putObj_heap_other hn⟩ (fun k hk e => ?_)
    rcases HO.out.2 with ⟨h, _⟩ | ⟨g, cap, cur, fz, h, _, hgb, _⟩
    · rw [h] at hk; cases hk
    · rw [h] at hk
      obtain rfl : g = k := by unfold ownS at hk; simpa [Value.ownBlock] using hk
      rw [e, hK] at hgb
      cases hgb
  case stop =>
    rintro D c pre W _ _ h _
    exact h.elim
end Go.Proofs.YtaknladkodibaaaGreat
