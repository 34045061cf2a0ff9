/- Rows of the call's own: copy into them, zeros behind them, one cell set. -/
import Derived.Test.YtfnkbpcimbldbaaFoot
import Derived.Lib.AppendZerosOnto
namespace Go.Proofs.Ytfnkbpcimbldbaa
open Go.RowKit

theorem splice_nil {α : Type} (L : List α) (o : Nat) : splice L o [] = L := by unfold splice; simp
theorem take_splice {α : Type} {L : List α} {o n : Nat} {cs : List α} (h : o + cs.length ≤ n) (hn : n ≤ L.length) : (splice L o cs).take n = splice (L.take n) o cs := by
  apply List.ext_getElem?
  intro i
  unfold splice
  simp only [List.getElem?_take, List.getElem?_append, List.length_take, List.getElem?_drop]
  by_cases h1 : i < n
  · simp only [h1, if_true]
    have e1 : min o L.length = o := by omega
    have e2 : min o (min n L.length) = o := by omega
    rw [e1, e2]
    by_cases h2 : i < o
    · simp [h2]
    · simp only [h2, if_false]
      by_cases h3 : i - o < cs.length
      · simp [h3]
      · simp only [h3, if_false]
        have : o + cs.length + (i - o - cs.length) < n := by omega
        simp [this]
  · simp only [h1, if_false]
    have e2 : min o (min n L.length) = o := by omega
    rw [e2]
    have h2 : ¬ i < o := by omega
    have h3 : ¬ i - o < cs.length := by omega
    have h4 : ¬ o + cs.length + (i - o - cs.length) < n := by omega
    simp [h2, h3, h4]
theorem set_splice {α : Type} (L : List α) (o : Nat) (x : α) (h : o < L.length) : L.set o x = splice L o [x] := by
  unfold splice
  apply List.ext_getElem?
  intro i
  have e : min o L.length = o := by omega
  simp only [List.getElem?_set, List.getElem?_append, List.length_take, List.getElem?_take, List.length_singleton, List.getElem?_drop, e]
  by_cases h1 : i < o
  · simp [h1, show o ≠ i by omega]
  · by_cases h2 : o = i
    · subst h2; simp [h]
    · have h3 : ¬ i - o < 1 := by omega
      simp only [h1, h2, if_false, h3]
      congr 1
      omega
/-- What lies over what was just laid. -/
theorem splice_over {α : Type} {L X Y : List α} {o : Nat} (h : o + X.length ≤ L.length) : splice (splice L o X) (o + X.length) Y = splice L o (X ++ Y) := by
  unfold splice
  have h1 : (L.take o).length = o := by rw [List.length_take]; omega
  have e1 : (L.take o ++ (X ++ L.drop (o + X.length))).take (o + X.length) = L.take o ++ X := by
    rw [← List.append_assoc, List.take_append_of_le_length (by rw [List.length_append, h1]; omega)]
    exact List.take_of_length_le (by rw [List.length_append, h1]; omega)
  have e2 : (L.take o ++ (X ++ L.drop (o + X.length))).drop (o + X.length + Y.length) = L.drop (o + X.length + Y.length) := by
    rw [← List.append_assoc, List.drop_append, List.drop_of_length_le (by rw [List.length_append, h1]; omega), List.nil_append, List.length_append, h1, List.drop_drop]
    congr 1
    omega
  rw [e1, e2]
  simp [List.append_assoc, Nat.add_assoc]

section
variable {w w' : World} {base : Nat} {e : TypeId} {n c g : Nat} {xs : List Value}

/-- The row of a slice of the call's own. -/
theorem own_row (h : w.ownsRow base e 1 (.slice (some ⟨g, 0, none⟩) n c) n xs) : ∃ cur : List Value, w.heap[g]? = some (.cells cur.toArray e (0, 0)) ∧ n ≤ cur.length ∧ cur.take n = xs ∧ base ≤ g ∧ n ≤ c ∧ c ≤ maxLen ∧ cur.length = c ∧ xs.length = n := by
  obtain ⟨h1, h2⟩ := h
  rcases h2 with ⟨h2, _⟩ | ⟨g', cap, cur, hv, hg, hh, hnc, hcm, hcs, htake⟩
  · cases h2
  · simp only [Value.slice.injEq, Option.some.injEq, Addr.mk.injEq] at hv
    obtain ⟨⟨rfl, _, _⟩, _, rfl⟩ := hv
    exact ⟨cur.toList, hh, by simp; omega, by simpa using htake, hg, hnc, hcm, by simp; omega, by omega⟩
theorem own_of_row {cur : List Value} (h : w.heap[g]? = some (.cells cur.toArray e (0, 0))) (hb : base ≤ g) (hn : n ≤ c) (hm : c ≤ maxLen) (hc : cur.length = c) (hx : cur.take n = xs) : w.ownsRow base e 1 (.slice (some ⟨g, 0, none⟩) n c) n xs :=
  ⟨by rw [← hx, List.length_take]; omega, .inr ⟨g, c, cur.toArray, rfl, hb, h, hn, hm, by simp; omega, by simpa using hx⟩⟩
theorem own_at (h : w.ownsRow base e 1 (.slice (some ⟨g, 0, none⟩) n c) n xs) : g < w.heap.size := by
  obtain ⟨cur, hh, _⟩ := own_row h
  exact (Array.getElem?_eq_some_iff.1 hh).1
/-- A row in which some cells were laid. -/
theorem own_splice (h : w.ownsRow base e 1 (.slice (some ⟨g, 0, none⟩) n c) n xs) (o : Nat) (cs : List Value) (hf : o + cs.length ≤ n)
    (hw : ∀ cur, w.heap[g]? = some (.cells cur e (0, 0)) → w'.heap[g]? = some (.cells (splice cur.toList o cs).toArray e (0, 0))) : w'.ownsRow base e 1 (.slice (some ⟨g, 0, none⟩) n c) n (splice xs o cs) := by
  obtain ⟨cur, hh, h1, h2, h3, h4, h5, h6, h7⟩ := own_row h
  have := hw _ hh
  refine own_of_row (by simpa using this) h3 h4 h5 (by rw [length_splice _ _ _ (by omega)]; exact h6) ?_
  rw [take_splice hf h1, h2]
theorem own_setcell (h : w.ownsRow base e 1 (.slice (some ⟨g, 0, none⟩) n c) n xs) (k : Nat) (u : Value) (hk : k < n) : (w.setCell ⟨g, k, none⟩ u).ownsRow base e 1 (.slice (some ⟨g, 0, none⟩) n c) n (splice xs k [u]) := by
  refine own_splice h k [u] (by simp; omega) fun cur hcur => ?_
  obtain ⟨cur', hh, h1, _⟩ := own_row h
  rw [hh] at hcur
  injection hcur with hcur
  injection hcur with hcur
  subst hcur
  refine (heap_setCell_same w g k _ _ _ hh).trans ?_
  congr 2
  rw [← set_splice _ _ _ (by simp; omega)]
  simp
end

section
variable {P : Program} (w : World)

theorem run_copy_into {base : Nat} {e : TypeId} {v : Value} {n : Nat} {xs : List Value} (hown : w.ownsRow base e 1 v n xs) (dT sT ty : TypeId) (hu : P.underlying dT = some (.slice e)) (hsz : (P.info? e).map (·.size) = some 1)
    (dp sp : Option Addr) (dLen dCap sLen sCap : Nat) (o : Nat) (cs : List Value) (hn : cs.length = Nat.min sLen dLen) (hpos : 0 < cs.length → ∃ g, v.ownBlock = some g ∧ dp = some ⟨g, o, none⟩)
    (B : Nat) (xc : List Value) (hr : Cells w B sp xc) (hx : cs = xc.take cs.length) (hfit : o + cs.length ≤ n) (h1 : ∀ u ∈ cs, u.oneCell' = true) :
    ∃ w', (Builtin.copy_ #[dT, sT] ty #[.slice dp dLen dCap, .slice sp sLen sCap]).run P w = .ok (goInt cs.length) w' ∧ w'.ownsRow base e 1 v n (splice xs o cs) ∧ Mod (ownS v) w w' := by
  by_cases h0 : cs.length = 0
  · obtain rfl : cs = [] := List.eq_nil_of_length_eq_zero h0
    exact ⟨w, run_copy_none (P := P) w dT sT ty e dp sp dLen dCap sLen sCap hu hsz (by simpa using hn.symm), by rw [splice_nil]; exact hown, Mod.refl _ w⟩
  · obtain ⟨g, hv, rfl⟩ := hpos (by omega)
    obtain ⟨b, p, rfl, _, hc⟩ := hr (by have := congrArg List.length hx; rw [List.length_take] at this; omega)
    have hform : ∃ c, v = .slice (some ⟨g, 0, none⟩) n c := by
      rcases hown.2 with ⟨rfl, _⟩ | ⟨g', cap, cur, rfl, _⟩
      · simp [Value.ownBlock] at hv
      · simp [Value.ownBlock] at hv
        subst hv
        exact ⟨cap, rfl⟩
    obtain ⟨c, rfl⟩ := hform
    obtain ⟨cur, hh, h2, h3, h4, h5, h6, h7, h8⟩ := own_row hown
    have hsrc : ∀ j u, cs[j]? = some u → w.cell? ((⟨b, p, none⟩ : Addr).add j) = some u := fun j u hj => by
      have hj' : xc[j]? = some u := by
        rw [hx, List.getElem?_take] at hj
        split at hj
        · exact hj
        · cases hj
      have := hc j u hj'
      clear hx hn
      unfold Addr.add
      split <;> simp_all
    refine ⟨_, run_copy_row (P := P) w dT sT ty e g o dLen dCap ⟨b, p, none⟩ sLen sCap cur.toArray e cs hu hsz hh hn hsrc (by simp; omega) h1, own_splice hown o cs hfit fun cur' hc' => ?_, ⟨rfl, rfl, rfl, by simp, fun k _ hk => setRow_other w g k _ (fun he => hk (by simp [ownS, Value.ownBlock, he]))⟩⟩
    rw [hh] at hc'
    injection hc' with hc'
    injection hc' with hc'
    subst hc'
    have := setRow_heap w g _ (cur.toArray.toList.take o ++ (cs ++ cur.toArray.toList.drop (o + cs.length))).toArray e (0, 0) hh
    simpa [splice] using this

theorem wpList_copy_into {ops : Array Oper} {rest : List Oper} {op : Oper} {a : Act} {Q : Exit → Act → World → Prop} (hgd : op.guard = none) (d s : Operand) (dT sT : TypeId)
    (ho : op.op = .call { callee := .builtin .copy, args := #[d, s], argTypes := #[dT, sT] })
    {base : Nat} {e : TypeId} {v : Value} {n : Nat} {xs : List Value} (hown : w.ownsRow base e 1 v n xs) (hu : P.underlying dT = some (.slice e)) (hsz : (P.info? e).map (·.size) = some 1)
    (dp sp : Option Addr) (dLen dCap sLen sCap : Nat) (hd : a.eval d = .slice dp dLen dCap) (hs : a.eval s = .slice sp sLen sCap) (o : Nat) (cs : List Value) (hn : cs.length = Nat.min sLen dLen) (hpos : 0 < cs.length → ∃ g, v.ownBlock = some g ∧ dp = some ⟨g, o, none⟩)
    (B : Nat) (xc : List Value) (hr : Cells w B sp xc) (hx : cs = xc.take cs.length) (hfit : o + cs.length ≤ n) (h1 : ∀ u ∈ cs, u.oneCell' = true)
    (h : ∀ w', w'.ownsRow base e 1 v n (splice xs o cs) → Mod (ownS v) w w' → wpList P ops Q rest (a.put op.dst (goInt cs.length)) w') : wpList P ops Q (op :: rest) a w := by
  refine wpList_plain hgd fun K hK => ?_
  obtain ⟨w', hrun, h2, h3⟩ := run_copy_into (P := P) w hown dT sT op.type hu hsz dp sp dLen dCap sLen sCap o cs hn hpos B xc hr hx hfit h1
  unfold Oper.wp execOp
  simp only [ho, resolve, invoke, builtin, Sem.run_bind, Sem.run_pure, Result.andThen_ok, List.map_toArray, List.map_cons, List.map_nil, hd, hs, hrun]
  exact hK _ _ (h w' h2 h3)
theorem step_copy_into {ops : Array Oper} {op : Oper} {a : Act} {K : Act → World → Prop} {Q : Exit → Act → World → Prop} {F : Prop} (hgd : op.guard = none) (d s : Operand) (dT sT : TypeId)
    (ho : op.op = .call { callee := .builtin .copy, args := #[d, s], argTypes := #[dT, sT] })
    {base : Nat} {e : TypeId} {v : Value} {n : Nat} {xs : List Value} (hown : w.ownsRow base e 1 v n xs) (hu : P.underlying dT = some (.slice e)) (hsz : (P.info? e).map (·.size) = some 1)
    (dp sp : Option Addr) (dLen dCap sLen sCap : Nat) (hd : a.eval d = .slice dp dLen dCap) (hs : a.eval s = .slice sp sLen sCap) (o : Nat) (cs : List Value) (hn : cs.length = Nat.min sLen dLen) (hpos : 0 < cs.length → ∃ g, v.ownBlock = some g ∧ dp = some ⟨g, o, none⟩)
    (B : Nat) (xc : List Value) (hr : Cells w B sp xc) (hx : cs = xc.take cs.length) (hfit : o + cs.length ≤ n) (h1 : ∀ u ∈ cs, u.oneCell' = true)
    (h : ∀ w', w'.ownsRow base e 1 v n (splice xs o cs) → Mod (ownS v) w w' → K (a.put op.dst (goInt cs.length)) w') :
    if Region.wanted op (yielded ops a.tmps) = true then Oper.wp P op a w K Q else F := by
  have hw : Region.wanted op (yielded ops a.tmps) = true := by simp [Region.wanted, hgd]
  rw [if_pos hw]
  obtain ⟨w', hrun, h2, h3⟩ := run_copy_into (P := P) w hown dT sT op.type hu hsz dp sp dLen dCap sLen sCap o cs hn hpos B xc hr hx hfit h1
  unfold Oper.wp execOp
  simp only [ho, resolve, invoke, builtin, Sem.run_bind, Sem.run_pure, Result.andThen_ok, List.map_toArray, List.map_cons, List.map_nil, hd, hs, hrun]
  exact h w' h2 h3

theorem zeroCells_one (z : Value) (hz : z.cells.size = 1) (k : Nat) : (Builtin.zeroCells z.cells k).toList = List.replicate k (z.cells[0]!) := by
  unfold Builtin.zeroCells
  rw [hz, Nat.mul_one]
  apply List.ext_getElem?
  intro i
  simp only [Array.toList_map, Array.toList_range, List.getElem?_map, List.getElem?_replicate, Nat.mod_one]
  by_cases h : i < k <;> simp [h]

theorem run_append_zeros {t e : TypeId} {z : Value} {bytes : Nat} (E : Elem P t e z 1 bytes) (tn : TypeId) (kn : IntKind) (htn : P.underlying tn = some (.int kn)) (hz1 : (z.cells[0]!).oneCell' = true) (base : Nat) (ty : TypeId)
    (v : Value) (n : Nat) (xs : List Value) (hown : w.ownsRow base e 1 v n xs) (kq : IntKind) (k : Nat)
    (h63 : n + k ≤ maxLen) (hbytes : (n + k) * bytes ≤ 140737488355328) (hbase : base ≤ w.heap.size) :
    ∃ A' c' w', (Builtin.append_ #[t, tn] ty #[v, .int kq k]).run P w = .ok (.slice A' (n + k) c') w' ∧ App w base e 1 v (n + k) (xs ++ List.replicate k (z.cells[0]!)) w' (.slice A' (n + k) c') := by
  obtain ⟨ht, ⟨i, hi, hz, hsize, hby⟩, hzs, hpos⟩ := E
  subst hby
  have hm : maxLen ≤ 9223372036854775807 := by unfold maxLen; omega
  have hw : IntKind.i64.wrap (k : Int) = k := by rw [IntKind.wrap_i64]; omega
  have hkb : k * i.bytes ≤ 140737488355328 := Nat.le_trans (Nat.mul_le_mul_right _ (by omega)) hbytes
  have h48i : ¬ (281474976710656 < (k : Int) * (i.bytes : Int)) := by rw [← Int.natCast_mul]; omega
  have hneg : ¬ ((k : Int) < 0) := by omega
  have hlx : xs.length = n := by have := hown.1; omega
  have hfin : ∀ (old : Nat) (w2 : World), old < n + k → w2 = w.drew.alloc (.cells (xs.toArray ++ Builtin.zeroCells z.cells k ++ Builtin.zeroCells z.cells (grownCap w (n + k) old e - (n + k))) e) →
      App w base e 1 v (n + k) (xs ++ List.replicate k (z.cells[0]!)) w2 (.slice (some ⟨w.heap.size, 0, none⟩) (n + k) (grownCap w (n + k) old e)) := by
    rintro old w2 ho rfl
    have hge := grownCap_ge w (n + k) old e
    have hcm : grownCap w (n + k) old e ≤ maxLen := grownCap_le_maxLen w (n + k) old e h63
    refine ⟨⟨by simp [hlx], .inr ⟨w.heap.size, _, _, rfl, hbase, heap_alloc_new w.drew _, hge, hcm, ?_, ?_⟩⟩, ⟨rfl, rfl, rfl, by simp, fun j hj _ => Below.heap_alloc w.drew _ j hj⟩, .inr ⟨_, rfl, Nat.le_refl _⟩⟩
    · simp only [Array.size_append, List.size_toArray, size_zeroCells, hzs, hlx]
      omega
    · simp only [Array.toList_append, zeroCells_one z hzs, Nat.mul_one]
      rw [List.take_append_of_le_length (by simp [hlx])]
      exact List.take_of_length_le (by simp [hlx])
  rcases Nat.eq_zero_or_pos k with rfl | hk0
  · have : ∃ A c, v = .slice A n c ∧ n ≤ c := by
      rcases hown.2 with ⟨rfl, rfl⟩ | ⟨g, cap, cur, rfl, _, _, hnc, _⟩
      · exact ⟨none, 0, rfl, Nat.le_refl _⟩
      · exact ⟨_, _, rfl, hnc⟩
    obtain ⟨A, c, rfl, hnc⟩ := this
    refine ⟨A, c, w, ?_, by simpa using App.start hown⟩
    have hw0 : IntKind.i64.wrap (0 : Int) = 0 := by rw [IntKind.wrap_i64]; omega
    cases A <;> simp [Builtin.append_, run_underlying ht, run_underlying htn, sizeOf, typeInfo, hi, asInt, asIntOf, hnc, storeCells, hw0]
  · have hk : k ≠ 0 := by omega
    rcases hown.2 with ⟨rfl, rfl⟩ | ⟨g, cap, cur, rfl, hbg, hg, hnc, hcm, hcs, htake⟩
    · obtain rfl : xs = [] := List.eq_nil_of_length_eq_zero hlx
      refine ⟨_, _, _, ?_, hfin 0 _ (by omega) rfl⟩
      have := Lib.run_append_nil_zeros (P := P) w t tn ty e i z kq kn ht htn hi hz k hk0 (by omega) (by omega) (by omega)
      simpa using this
    · by_cases hroom : n + k ≤ cap
      · have hst := run_storeCells_at P g n e (List.replicate k (z.cells[0]!)) 0 cur w hg (by simp; omega) (by intro u hu; rw [List.eq_of_mem_replicate hu]; exact hz1)
        simp only [Nat.add_zero] at hst
        have hns : ¬ (k * i.size = 0) := by rw [hsize]; omega
        have hzl : Builtin.zeroCells z.cells k = (List.replicate k (z.cells[0]!)).toArray := by rw [← zeroCells_one z hzs k]
        refine ⟨some ⟨g, 0, none⟩, cap, w.setRow g (cur.toList.take n ++ List.replicate k (z.cells[0]!) ++ cur.toList.drop (n + (List.replicate k (z.cells[0]!)).length)).toArray, ?_, ⟨⟨by simp [hlx], .inr ⟨g, cap, _, rfl, hbg, setRow_heap w g cur _ e _ hg, hroom, hcm, ?_, ?_⟩⟩, ⟨rfl, rfl, rfl, by simp, fun k _ hk => setRow_other w g k _ (fun e => hk (by simp [Value.ownBlock, e]))⟩, .inl rfl⟩⟩
        · simp [Builtin.append_, run_underlying ht, run_underlying htn, sizeOf, typeInfo, zeroValue, hi, hz, asInt, asIntOf, hw, hneg, h48i, hsize, hk, hroom, Addr.add_lit, hzl]
          simp at hst
          simp [hst]
        · simp only [List.size_toArray, List.length_append, List.length_take, List.length_drop, Array.length_toList, List.length_replicate]
          omega
        · have e1 : cur.toList.take n = xs := by rw [← htake, Nat.mul_one]
          simp only [e1, Nat.mul_one]
          rw [List.take_append_of_le_length (by simp [hlx])]
          exact List.take_of_length_le (by simp [hlx])
      · have holds : ∀ j u, xs[j]? = some u → w.cell? ((⟨g, 0, none⟩ : Addr).add j) = some u := hown.cells (g := g) rfl
        have hold := run_firstCells_some (P := P) w.drew i.size n ⟨g, 0, none⟩ n cap xs (by rw [hsize, hlx, Nat.mul_one]) (fun j u hj => holds j u hj)
        refine ⟨_, _, _, ?_, hfin cap _ (by omega) rfl⟩
        exact Lib.run_append_grow_zeros (P := P) w t tn ty e i z kq kn ht htn hi hz _ n cap xs hold k hk0 (by omega) (by omega) (by omega) (by omega) (growslice_fits (by omega) hbytes)

theorem step_append_zeros {ops : Array Oper} {o : Oper} {a : Act} {K : Act → World → Prop} {Q : Exit → Act → World → Prop} {F : Prop} {t e : TypeId} {z : Value} {bytes : Nat} (E : Elem P t e z 1 bytes) (tn : TypeId) (kn : IntKind) (htn : P.underlying tn = some (.int kn)) (hz1 : (z.cells[0]!).oneCell' = true)
    (hgd : o.guard = none) (s x : Operand) (ho : o.op = .call { callee := .builtin .append, args := #[s, x], argTypes := #[t, tn] }) (base : Nat)
    (v : Value) (n : Nat) (xs : List Value) (hs : a.eval s = v) (hown : w.ownsRow base e 1 v n xs) (kq : IntKind) (k : Nat) (ki : Int) (hki : ki = (k : Int)) (hx : a.eval x = .int kq ki)
    (h63 : n + k ≤ maxLen) (hbytes : (n + k) * bytes ≤ 140737488355328) (hbase : base ≤ w.heap.size)
    (h : ∀ A' c' w', App w base e 1 v (n + k) (xs ++ List.replicate k (z.cells[0]!)) w' (.slice A' (n + k) c') → K (a.put o.dst (.slice A' (n + k) c')) w') :
    if Region.wanted o (yielded ops a.tmps) = true then Oper.wp P o a w K Q else F := by
  have hw : Region.wanted o (yielded ops a.tmps) = true := by simp [Region.wanted, hgd]
  rw [if_pos hw]
  subst hki
  obtain ⟨A', c', w', hr, h2⟩ := run_append_zeros (P := P) w E tn kn htn hz1 base o.type v n xs hown kq k h63 hbytes hbase
  unfold Oper.wp execOp
  simp only [ho, resolve, invoke, builtin, Sem.run_bind, Sem.run_pure, Result.andThen_ok, List.map_toArray, List.map_cons, List.map_nil, hs, hx, hr]
  exact h A' c' w' h2
end
end Go.Proofs.Ytfnkbpcimbldbaa
