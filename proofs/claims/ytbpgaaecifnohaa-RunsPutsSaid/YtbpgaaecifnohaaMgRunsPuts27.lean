/- Layer 9: all parts, as a row. -/
import Derived.Test.YtbpgaaecifnohaaMgRunsPuts26
import Derived.Maps.AppendAt
namespace Go.Proofs.Ytbpgaaecifnohaa
open Go.RowKit Go.Shelf
attribute [local go_sem] Oper.semAt_some

/-- A part's cells. -/
def ptC (t : Nat × Nat) : List Value := [.int .i64 (t.1 : Int), .int .i64 (t.2 : Int)]
theorem partElem : Elem Try.prog 48 54 (.agg #[.int .i64 0, .int .i64 0]) 2 16 := Elem.of Try.underlying48 (by kernel_rfl) (by kernel_rfl) (by omega)
theorem ptC_one (t : Nat × Nat) : ∀ u ∈ ptC t, u.oneCell' = true := fun u hu => by
  unfold ptC at hu
  simp only [List.mem_cons, List.not_mem_nil, or_false] at hu
  rcases hu with rfl | rfl <;> rfl
theorem ptC_cells (W : World) (t : Nat × Nat) : Cells (W.alloc (.cells #[.int .i64 (t.1 : Int), .int .i64 (t.2 : Int)] 54)) (W.heap.size + 1) (some ⟨W.heap.size, 0, none⟩) (ptC t) := fun _ =>
  ⟨W.heap.size, 0, rfl, by omega, fun j u hu => by
    rw [Nat.zero_add, cell_of_row _ W.heap.size j _ _ _ (heap_alloc_new W _), ← Array.getElem?_toList]
    exact hu⟩
theorem kpb_append {W w1 : World} {n B : Nat} {v v' : Value} {k m : Nat} {xs ys : List Value} {tmp : Obj} (hv : Boxed W B 48 v) (hrow : W.ownsRow n 54 2 v k xs) (hn : n ≤ W.heap.size) (hB : n ≤ B) (hap : App (W.alloc tmp) n 54 2 v m ys w1 v') :
    Boxed w1 B 48 v ∧ Boxed (w1.setCell ⟨B, 0, none⟩ v') B 48 v' ∧ (w1.setCell ⟨B, 0, none⟩ v').ownsRow n 54 2 v' m ys ∧ KeepsOthers W (w1.setCell ⟨B, 0, none⟩ v') ∧ Below n W (w1.setCell ⟨B, 0, none⟩ v') ∧ KpB n B W (w1.setCell ⟨B, 0, none⟩ v') := by
  obtain ⟨p1, p2, p3, p4, p5⟩ := hv.appended (by decide) hrow hn hB hap.own hap.grow
  have hs1 := hap.grow.size
  have hs2 : W.heap.size + 1 ≤ w1.heap.size := by simpa using hs1
  refine ⟨p1, p2, p3, p4, p5, p5, fun j o hj ho hjB hno => ?_, fun j hj => ?_, p4.size⟩
  · have hlt := (Array.getElem?_eq_some_iff.1 hj).1
    rw [ownOf_box hv] at hno
    exact (Below.heap_setCell w1 ⟨B, 0, none⟩ v' j hjB).trans ((hap.grow.block j (by simp; omega) (fun e => hno e.symm)).trans ((Below.heap_alloc W tmp j hlt).trans hj))
  · rw [ownOf_box p2] at hj
    rw [ownOf_box hv]
    rcases hap.loc with h | ⟨g, h, hg⟩
    · rw [h] at hj; exact ⟨.inl hj, .inl hj⟩
    · rw [h] at hj
      cases hj
      have hlt := own_lt p3 j h
      refine ⟨.inr (by simp at hg; omega), .inr hlt⟩
set_option maxRecDepth 100000 in
set_option maxHeartbeats 4000000 in
theorem appendSeq_any (gf : Nat) (lb : Array Value) (L : List (Nat × Nat)) (hlen : L.length ≤ 321) (w : World) (eg : ∀ args w, (callFunc gf args).run Try.prog w = .ok (.enter gf args) w)
    (hseq : ∀ W : World, Below w.heap.size w W → w.heap.size < W.heap.size → ownOf w.heap.size W = none → SeqStopsK Fence.wide 5 Try.prog gf lb (fun t : Nat × Nat => #[ptV t]) (KpB w.heap.size w.heap.size) (fun xs => xs = L) (fun pre => pre <+: L) 321 W) :
    Calls Try.prog 70 #[.slice none 0 0, .func (.func gf) #[] lb] w fun e w' => ∃ v, e = .returned v ∧ w'.ownsRow w.heap.size 54 2 v L.length (L.map ptC).flatten ∧ Below w.heap.size w w' := by
  refine (callsIn_wide (n := 6)).1 ?_
  refine callsIn_of_wp_marks Try.func70 rfl trivial ?_ rfl
  simp only [Try.ntmps70, List.size_toArray, List.length_cons, List.length_nil, Nat.reduceAdd, Nat.reduceSub, Array.replicate_succ, Array.replicate_zero, List.push_toArray, List.append_toArray, List.nil_append, List.cons_append]
  gi_wp2
  obtain ⟨W1, hW1⟩ : ∃ W1, w.alloc (.cells #[.slice none 0 0] 48) = W1 := ⟨_, rfl⟩
  have bO : Boxed W1 w.heap.size 48 (.slice none 0 0) := by rw [← hW1]; exact Boxed.new w _ _
  have hB0 : Below w.heap.size w W1 := by rw [← hW1]; exact (Below.refl _ w).alloc (Nat.le_refl _) _
  have hz : W1.heap.size = w.heap.size + 1 := by rw [← hW1]; simp
  rw [hW1]
  clear hW1
  refine wpIn_rangeFunc_ownH rfl (by omega) (gf := gf) (lb := lb) rfl trivial eg (hseq W1 hB0 (by omega) (by rw [ownOf_box bO]; rfl))
    (fun h k => h.trans k) (fun W l o o' hl ho hc _ => KpB.putObj W l o o' (by omega) (by omega) ho hc) (Below.refl _ _) (fun _ => rfl)
    (fun pre W => (∃ v, Boxed W w.heap.size 48 v ∧ W.ownsRow w.heap.size 54 2 v pre.length (pre.map ptC).flatten ∧ True) ∧ Below w.heap.size w W)
    (fun _ _ _ => False)
    (OwnFrom.and (Own.from (holdsRow_own w.heap.size w.heap.size 48 54 2 (fun pre : List (Nat × Nat) => pre.length) (fun pre => (pre.map ptC).flatten) (fun _ _ => True)) _) (ownFrom_below (Nat.le_refl _) (by omega)))
    (fun _ _ _ _ _ h _ _ => h)
    ⟨⟨_, bO, World.ownsRow_nil _ _ _ _, trivial⟩, hB0⟩
    (fun t a' W => ∃ Bx, W.heap[Bx]? = some (.cells #[.int .i64 (t.1 : Int), .int .i64 (t.2 : Int)] 54) ∧ a' = { tmps := #[.slice none 0 0, .func (.func gf) #[] lb, .pointer (some ⟨w.heap.size, 0, none⟩), undef, .slice none 0 0, .pointer (some ⟨Bx, 0, none⟩), .func (.func gf) #[] lb, ptV t, undef, undef, undef, undef, undef], defers := [] })
    (fun t a' _ X Y row hs hg hr => by
      obtain ⟨Bx, h1, h2⟩ := hs
      refine ⟨Bx, (hg.block Bx (Array.getElem?_eq_some_iff.1 h1).1 (fun e => ?_)).trans h1, h2⟩
      obtain ⟨_, o, ho, hc⟩ := hr Bx e.symm
      rw [h1] at ho; cases ho; cases hc)
    ?assign ?body ?done ?stop
  case assign =>
    rintro g pre ⟨tn, td⟩ W K hi hK
    simp only [ptV]
    gi_wp2
    obtain ⟨⟨v, hv, hrow, _⟩, hB⟩ := hi
    exact hK _ _ ((KeepsOthers.alloc _ _).from _) (kpb_alloc _ hB.size hv.lt) ⟨⟨v, hv.alloc _, hrow.alloc _, trivial⟩, hB.alloc hB.size _⟩ ⟨W.heap.size, heap_alloc_new W _, rfl⟩
  case body =>
    rintro g pre ⟨tn, td⟩ a' W hl ⟨r, hr⟩ ⟨⟨v, hv, hrow, _⟩, hB⟩ ⟨Bx, hx, rfl⟩ hlt
    have hc := hv.cell
    have k0 : W.cell? ⟨Bx, 0, none⟩ = some (.int .i64 (tn : Int)) := cell_of_row W _ 0 _ _ _ hx
    have k1 : W.cell? ⟨Bx, 1, none⟩ = some (.int .i64 (td : Int)) := cell_of_row W _ 1 _ _ _ hx
    clear hx
    gi_wp2_with (gi_at_builtin; refine wpListIn_app _ partElem rfl _ _ rfl w.heap.size v pre.length _ rfl (hrow.alloc _) (W.heap.size + 1) (some ⟨W.heap.size, 0, none⟩) 1 1 (ptC (tn, td)) rfl rfl (ptC_cells W (tn, td)) (ptC_one _) (by unfold maxLen; omega) (by omega) (by have := hB.size; simp; omega) ?_; intro A' c' w1 hap; obtain ⟨hv1, hv2, hr2, hk2, hb2, hkp⟩ := kpb_append hv hrow hB.size (Nat.le_refl _) hap; have hc1 := hv1.cell; have hf1 := hv1.frozen)
    exact ⟨hk2.from _, hkp, ⟨_, hv2, by simpa using hr2, trivial⟩, hB.trans hb2⟩
  case done =>
    rintro D ys W hD rfl ⟨⟨v, hv, hrow, _⟩, hB⟩ hK
    have hc := hv.cell
    gi_wp2
    refine ⟨by simp, .inl ⟨_, _, rfl, run_takeDeferred hK, ?_⟩⟩
    exact ⟨_, results_tmp rfl _ _ _, v, rfl, ownsRow_putObj hrow _ hK rfl, hB.trans ((Below.refl _ W).grown (grownBy_putObj' W D _) (by have := hB.size; omega) (fun k e => by cases e; omega))⟩
  case stop =>
    rintro D c pre W _ _ h _
    exact h.elim
end Go.Proofs.Ytbpgaaecifnohaa
/- Layer 9: Parts; the chapter's example. -/
namespace Go.Proofs.Ytbpgaaecifnohaa
open Go.RowKit Go.Shelf

theorem cells_of_ownP {w : World} {base : Nat} {e : TypeId} {size : Nat} {A : Option Addr} {n c : Nat} {xs : List Value} (h : w.ownsRow base e size (.slice A n c) n xs) : Cells w w.heap.size A xs := fun hp => by
  obtain ⟨hlen, hor⟩ := h
  rcases hor with ⟨h1, h2⟩ | ⟨g, cap, cur, hv, _, hg, _, _, hcells⟩
  · subst h2; rw [Nat.zero_mul] at hlen; omega
  · injection hv with ha _ _
    refine ⟨g, 0, ha, (Array.getElem?_eq_some_iff.1 hg).1, fun j u hj => ?_⟩
    rw [Nat.zero_add, cell_of_row w g j _ _ _ hg]
    obtain ⟨_, ht⟩ := hcells
    rw [← ht, List.getElem?_take] at hj
    split at hj
    · rw [← Array.getElem?_toList]; exact hj
    · cases hj
theorem parts_few (ls : List Nat) : (partsP ls 0).length ≤ ls.length := by
  have := partsP_len ls ls.length 0 (by omega)
  omega
/-- Lengths, as they come in: right ones are numbers. -/
theorem right_nats : ∀ {zs : List Int}, zs.all lenB = true → ∃ ls : List Nat, zs = ls.map (fun n : Nat => (n : Int)) ∧ ls.length = zs.length ∧ ∀ x ∈ ls, x ≤ 15
  | [], _ => ⟨[], rfl, rfl, fun _ h => by cases h⟩
  | z :: zs, h => by
    rw [List.all_cons, Bool.and_eq_true] at h
    obtain ⟨ls, h1, h2, h3⟩ := right_nats h.2
    have h0 := h.1
    simp only [lenB, Bool.and_eq_true, decide_eq_true_eq] at h0
    refine ⟨z.toNat :: ls, ?_, by simp [h2], ?_⟩
    · rw [List.map_cons, ← h1, show ((z.toNat : Nat) : Int) = z by omega]
    · intro x hx
      rcases List.mem_cons.1 hx with rfl | hx
      · omega
      · exact h3 x hx
theorem nCs_ic (ls : List Nat) : (ls.map (fun n : Nat => (n : Int))).map ic = nCs ls := by
  rw [List.map_map]
  rfl
theorem all_right {ls : List Nat} (hv : ∀ x ∈ ls, x ≤ 15) : (ls.map (fun n : Nat => (n : Int))).all lenB = true := by
  rw [List.all_eq_true]
  intro x hx
  obtain ⟨n, hn, rfl⟩ := List.mem_map.1 hx
  have := hv n hn
  simp [lenB]
  omega
set_option maxHeartbeats 1000000 in
theorem rnparts_any (A : Option Addr) (l c : Nat) (ls : List Nat) (w : World) (hl : ls.length = l) (h1l : 1 ≤ l) (hm : l ≤ 320) (hv : ∀ x ∈ ls, x ≤ 15) (hb : Cells w w.heap.size A (nCs ls)) :
    Calls Try.prog 21 #[.slice A l c] w fun e w' => ∃ A' c', e = .returned (.slice A' (partsP ls 0).length c') ∧ Cells w' w'.heap.size A' ((partsP ls 0).map ptC).flatten ∧ Below w.heap.size w w' := by
  obtain ⟨W1, hW1⟩ : ∃ W1, w.alloc (.cells #[.slice A l c] 22) = W1 := ⟨_, rfl⟩
  have hz : W1.heap.size = w.heap.size + 1 := by rw [← hW1]; simp
  have hB1 : Below w.heap.size w W1 := by rw [← hW1]; exact (Below.refl _ w).alloc (Nat.le_refl _) _
  have h1 : Boxed W1 w.heap.size 22 (.slice A l c) := by rw [← hW1]; exact Boxed.new w _ _
  have hAB : ∀ a, A = some a → a.block < w.heap.size := fun a ha => by
    obtain ⟨b, o, hab, hbl, _⟩ := hb (by rw [nCs_len]; omega)
    rw [ha] at hab
    cases hab
    exact hbl
  have HR := Lib.hid (rightL_any A l c (ls.map (fun n : Nat => (n : Int))) w.heap.size w (by rw [List.length_map]; exact hl) (by omega) (by rw [nCs_ic]; exact hb))
  rw [all_right hv] at HR
  have HC := Lib.hid (parts_any A l c w)
  rw [hW1] at HC
  have HA := Lib.hid (appendSeq_any 49 #[.pointer (some ⟨w.heap.size, 0, none⟩)] (partsP ls 0) (by have := parts_few ls; omega) W1 (enters_of Try.func49 (by kernel_rfl) rfl)
    (fun Z hZ hsz ho => parts_seq W1.heap.size W1.heap.size w.heap.size A l c ls Z hl hm hv ((hb.below (hB1.trans (hZ.mono (by omega))) (Nat.le_refl _)).more (by have := hZ.size; omega)) hZ.size hsz (by omega) (fun a ha => by have := hAB a ha; omega) (fun k hk => by rw [ho] at hk; cases hk) ((hZ.block _ (by omega)).trans h1)))
  have HCO : Hid (Calls Try.prog 46 #[.func (.func 49) #[] #[.pointer (some ⟨w.heap.size, 0, none⟩)]] W1 fun e w' => ∃ v, e = .returned v ∧ w'.ownsRow W1.heap.size 54 2 v (partsP ls 0).length ((partsP ls 0).map ptC).flatten ∧ Below W1.heap.size W1 w') := by
    show Calls _ _ _ _ _
    generalize partsP ls 0 = L at HA ⊢
    clear hb
    go_enter Try.func46, Try.ntmps46
    go_wp2_with (go_at_call 70; refine HA.out.mono ?_; rintro e w5 ⟨v, rfl, ho, hb⟩; have HO := Lib.hid ho; have HBB := Lib.hid hb; clear ho hb)
    go_ret
    exact ⟨v, rfl, HO.out, HBB.out⟩
  have HB1 := Lib.hid hB1
  have HZ := Lib.hid hz
  have t1 : decide ((320 : Int) < (l : Int)) = false := decide_eq_false (by omega)
  clear hW1 hB1 h1 HA hz hb hl hv hAB
  generalize partsP ls 0 = L at HCO ⊢
  go_enter Try.func21, Try.ntmps21
  go_wp2_with (first
    | (go_at_call 23; refine HR.out.mono ?_; rintro e w' ⟨rfl, rfl⟩)
    | (go_at_call 24; refine HC.out.mono ?_; rintro e w' ⟨rfl, rfl⟩)
    | (go_at_call 46; refine HCO.out.mono ?_; rintro e w5 ⟨v, rfl, ho, hb⟩; have HO := Lib.hid ho; have HBB := Lib.hid hb; clear ho hb))
  go_ret
  obtain ⟨A', c', rfl⟩ := own_form' HO.out
  exact ⟨A', c', rfl, cells_of_ownP HO.out, HB1.out.trans (HBB.out.mono (by have := HZ.out; omega))⟩
theorem partsL : partsP [5, 5, 5, 5] 0 = [(5, 1), (16, 3)] := by
  rw [partsP_step (by decide), show numP [5, 5, 5, 5] 0 = 5 by decide, show manyP [5, 5, 5, 5] 0 = 1 by decide, partsP_step (by decide), show numP [5, 5, 5, 5] (0 + 1) = 16 by decide, show manyP [5, 5, 5, 5] (0 + 1) = 3 by decide, partsP_end (by decide)]
set_option maxHeartbeats 1000000 in
theorem lives9_any (w : World) : Calls Try.prog 6 #[] w fun e w' => e = .returned (.bool true) ∧ Below w.heap.size w w' := by
  obtain ⟨W1, hW1⟩ : ∃ W1, w.alloc (.cells #[.int .i64 5, .int .i64 5, .int .i64 5, .int .i64 5] 3) = W1 := ⟨_, rfl⟩
  have HZ1 : Hid (W1.heap.size = w.heap.size + 1) := by show _ = _; rw [← hW1]; simp
  have HB1 : Hid (Below w.heap.size w W1) := by show Below _ _ _; rw [← hW1]; exact (Below.refl _ w).alloc (Nat.le_refl _) _
  have hc : Cells W1 W1.heap.size (some ⟨w.heap.size, 0, none⟩) (nCs [5, 5, 5, 5]) := fun _ => ⟨w.heap.size, 0, rfl, by have := HZ1.out; omega, fun j u hj => by
    rw [Nat.zero_add, ← hW1, cell_of_row _ w.heap.size j _ _ _ (heap_alloc_new w _), ← Array.getElem?_toList]
    exact hj⟩
  have HS := Lib.hid (rnparts_any (some ⟨w.heap.size, 0, none⟩) 4 4 [5, 5, 5, 5] W1 rfl (by decide) (by decide) (by decide) hc)
  rw [partsL] at HS
  clear hc
  go_enter Try.func6, Try.ntmps6
  go_wp2_with (go_at_call 21; refine HS.out.mono ?_; rintro e w2 ⟨A2, c2, rfl, hcs, hb2⟩; obtain ⟨b2, o2, rfl, _, hc⟩ := hcs (by decide); have e0 : w2.cell? ⟨b2, o2, none⟩ = some (.int .i64 5) := hc 0 _ rfl; have e1 : w2.cell? ⟨b2, o2 + 1, none⟩ = some (.int .i64 1) := hc 1 _ rfl; have e2 : w2.cell? ⟨b2, o2 + 2, none⟩ = some (.int .i64 16) := hc 2 _ rfl; have e3 : w2.cell? ⟨b2, o2 + 2 + 1, none⟩ = some (.int .i64 3) := hc 3 _ rfl; have HB2 := Lib.hid hb2; clear hc hb2 hcs)
  go_ret
  exact ⟨rfl, HB1.out.trans (HB2.out.mono (by have := HZ1.out; omega))⟩
end Go.Proofs.Ytbpgaaecifnohaa
