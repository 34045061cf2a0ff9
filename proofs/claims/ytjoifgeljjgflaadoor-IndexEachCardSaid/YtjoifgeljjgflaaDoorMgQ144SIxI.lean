/- Layer 24: slices.Insert of one member, slices.Delete of one, in rows of the call's own. -/
import Derived.Test.YtjoifgeljjgflaaDoorMgQ14423
import Derived.Test.YtjoifgeljjgflaaDoorMgQ144SRowK
import Derived.Shelf.RegionOpenPlain
import Derived.Laws.Externs
namespace Go.Proofs.YtjoifgeljjgflaaDoor
open Go.RowKit

theorem memElem : Elem Tryd.prog 22 32 (.agg #[.string ⟨#[]⟩, .int .i64 0, .int .i64 0, .int .i64 0, .int .i64 0, .int .u32 0, .int .i64 0]) 7 64 := Elem.of Tryd.underlying22 (by kernel_rfl) rfl (by omega)
theorem memSize : (Tryd.prog.info? 32).map (·.size) = some 7 := by kernel_rfl
theorem run_memSize (w : World) : (Go.sizeOf 32).run Tryd.prog w = .ok 7 w := by
  cases h : Tryd.prog.info? 32 with
  | none => have := memSize; rw [h] at this; cases this
  | some i => have := memSize; rw [h] at this; simp only [Option.map_some, Option.some.injEq] at this; simp [sizeOf, typeInfo, h, this]
/-- A member's cells, one of each. -/
def oneC (xs : List Value) : Prop := ∀ u ∈ xs, u.oneCell' = true
theorem memsOne (ms : List LM) : oneC (ms.map LM.cells).flatten := by
  intro u hu
  obtain ⟨x, hx, hux⟩ := List.mem_flatten.1 hu
  obtain ⟨m, _, rfl⟩ := List.mem_map.1 hx
  simp only [LM.cells, List.mem_cons, List.not_mem_nil, or_false] at hux
  rcases hux with rfl | rfl | rfl | rfl | rfl | rfl | rfl <;> rfl
theorem memCells_take (ms : List LM) (i : Nat) : (ms.map LM.cells).flatten.take (i * 7) = ((ms.take i).map LM.cells).flatten := by
  induction ms generalizing i with
  | nil => simp
  | cons m ms ih =>
    cases i with
    | zero => simp
    | succ i =>
      rw [List.map_cons, List.flatten_cons, List.take_succ_cons, List.map_cons, List.flatten_cons, List.take_append, show m.cells.length = 7 from rfl, show (i + 1) * 7 - 7 = i * 7 by omega, ih, List.take_of_length_le (show m.cells.length ≤ (i + 1) * 7 by show 7 ≤ _; omega)]
theorem memCells_drop (ms : List LM) (i : Nat) : (ms.map LM.cells).flatten.drop (i * 7) = ((ms.drop i).map LM.cells).flatten := by
  induction ms generalizing i with
  | nil => simp
  | cons m ms ih =>
    cases i with
    | zero => simp
    | succ i =>
      rw [List.map_cons, List.flatten_cons, List.drop_succ_cons, List.drop_append, show m.cells.length = 7 from rfl, show (i + 1) * 7 - 7 = i * 7 by omega, ih, List.drop_of_length_le (show m.cells.length ≤ (i + 1) * 7 by show 7 ≤ _; omega), List.nil_append]

theorem overlaps_apart (w : World) (vb g off l c k : Nat) (C cur : Array Value) (hne : vb ≠ g) (hv : w.heap[vb]? = some (.cells C 32 (0, 0))) (hg : w.heap[g]? = some (.cells cur 32 (0, 0))) (hcur : cur.size ≠ 0) :
    (callFunc 53 #[.slice (some ⟨vb, 0, none⟩) 1 k, .slice (some ⟨g, off, none⟩) l c]).run Tryd.prog w = .ok (.value (.bool false)) w := by
  rw [run_callFunc_extern Tryd.func53 (by kernel_rfl) (by kernel_rfl) (by kernel_rfl) (e := Extern.SlicesOverlaps.overlaps #[22, 22] #[4]) (by kernel_rfl),
    Lib.run_overlaps_apart w 22 4 32 Tryd.underlying22 7 run_memSize ⟨vb, 0, none⟩ ⟨g, off, none⟩ 1 k l c hne 32 32 C.size cur.size (by simp [World.shape?, hv]) (by simp [World.shape?, hg]) hcur (by simp [World.frozen?, hv]) (by simp [World.frozen?, hv])]
  rfl

set_option maxHeartbeats 1000000 in
/-- slices.Insert at the end. -/
theorem insM_end (base : Nat) (A : Option Addr) (n c : Nat) (xs : List Value) (vb : Nat) (C : Array Value) (w : World) (hown : w.ownsRow base 32 7 (.slice A n c) n xs) (hv : w.heap[vb]? = some (.cells C 32 (0, 0))) (hC : C.size = 7) (h1 : oneC C.toList) (hn : n ≤ 1000000000) (hB : base ≤ w.heap.size) :
    Calls Tryd.prog 42 #[.slice A n c, .int .i64 n, .slice (some ⟨vb, 0, none⟩) 1 1] w fun e w' => ∃ A' c', e = .returned (.slice A' (n + 1) c') ∧ App w base 32 7 (.slice A n c) (n + 1) (xs ++ C.toList) w' (.slice A' (n + 1) c') := by
  have HO := Lib.hid hown
  have HCC : Hid (Cells w (vb + 1) (some ⟨vb, 0, none⟩) C.toList) := fun _ => ⟨vb, 0, rfl, Nat.lt_succ_self _, fun j u hu => by rw [Nat.zero_add, cell_of_row _ _ _ _ _ _ hv]; simpa using hu⟩
  have HA : Hid (C.toList.length = 1 * 7) := by show _ = _; rw [Array.length_toList, hC]
  have HC1 := Lib.hid h1
  clear hv h1
  rcases ownK_form hown with ⟨he, hn0⟩ | ⟨g, c', he⟩
  · injection he with hA _ hc'
    subst hA hc' hn0
    clear hown
    go_enter Tryd.func42, Tryd.ntmps42
    go_wp2_with (at_builtin; refine wpList_app _ memElem rfl _ _ rfl base (.slice none 0 0) 0 xs rfl HO.out (vb + 1) (some ⟨vb, 0, none⟩) 1 1 C.toList rfl HA.out HCC.out HC1.out (by unfold maxLen; omega) (by omega) hB ?_; intro A' c' w' hApp; have HAP := Lib.hid hApp; clear hApp)
    go_ret
    exact ⟨_, _, rfl, HAP.out⟩
  · injection he with hA _ hc'
    subst hA hc'
    have hnc := (ownK_row hown).choose_spec.2.2.2.1
    clear hown
    by_cases hcn : c = n
    · subst hcn
      go_enter Tryd.func42, Tryd.ntmps42
      go_wp2_with (at_builtin; refine wpList_app _ memElem rfl _ _ rfl base (.slice (some ⟨g, 0, none⟩) c c) c xs rfl HO.out (vb + 1) (some ⟨vb, 0, none⟩) 1 1 C.toList rfl HA.out HCC.out HC1.out (by unfold maxLen; omega) (by omega) hB ?_; intro A' c' w' hApp; have HAP := Lib.hid hApp; clear hApp)
      go_ret
      exact ⟨_, _, rfl, HAP.out⟩
    · go_enter Tryd.func42, Tryd.ntmps42
      go_wp2_with (at_builtin; refine wpList_app _ memElem rfl _ _ rfl base (.slice (some ⟨g, 0, none⟩) n c) n xs rfl HO.out (vb + 1) (some ⟨vb, 0, none⟩) 1 1 C.toList rfl HA.out HCC.out HC1.out (by unfold maxLen; omega) (by omega) hB ?_; intro A' c' w' hApp; have HAP := Lib.hid hApp; clear hApp)
      go_ret
      exact ⟨_, _, rfl, HAP.out⟩

set_option maxRecDepth 100000 in
set_option maxHeartbeats 4000000 in
/-- .. in the middle, where there is room. -/
theorem insM_room (base g n c i : Nat) (xs : List Value) (vb : Nat) (C : Array Value) (w : World) (hown : w.ownsRow base 32 7 (.slice (some ⟨g, 0, none⟩) n c) n xs) (hx1 : oneC xs) (hv : w.heap[vb]? = some (.cells C 32 (0, 0))) (hC : C.size = 7) (h1 : oneC C.toList) (hn : n ≤ 1000000000) (hi : i < n) (hne : vb ≠ g) (hroom : n + 1 ≤ c) :
    Calls Tryd.prog 42 #[.slice (some ⟨g, 0, none⟩) n c, .int .i64 i, .slice (some ⟨vb, 0, none⟩) 1 1] w fun e w' => ∃ A' c', e = .returned (.slice A' (n + 1) c') ∧ App w base 32 7 (.slice (some ⟨g, 0, none⟩) n c) (n + 1) (xs.take (i * 7) ++ C.toList ++ xs.drop (i * 7)) w' (.slice A' (n + 1) c') := by
  obtain ⟨cur, hg, htk, hbg, hnc, hcm, hcs, hxl⟩ := ownK_row hown
  have hgv : vb < w.heap.size := (Array.getElem?_eq_some_iff.1 hv).1
  have hC' : C.toList.length = 7 := by rw [Array.length_toList, hC]
  have hdl : (xs.drop (i * 7)).length = (n - i) * 7 := by rw [List.length_drop, hxl, Nat.sub_mul]
  have hcl : cur.toList.length = c * 7 := by rw [Array.length_toList, hcs]
  -- the tail, moved by one
  obtain ⟨cur1, hc1⟩ : ∃ cur1 : Array Value, cur1 = (splice cur.toList ((i + 1) * 7) (xs.drop (i * 7))).toArray := ⟨_, rfl⟩
  have hl1 : (i + 1) * 7 + (xs.drop (i * 7)).length ≤ cur.toList.length := by rw [hdl, hcl]; omega
  have hs1 : cur1.size = cur.size := by rw [hc1, List.size_toArray, length_splice _ _ _ hl1, Array.length_toList]
  have hov : ∀ l c', (callFunc 53 #[.slice (some ⟨vb, 0, none⟩) 1 1, .slice (some ⟨g, (i + 1) * 7, none⟩) l c']).run Tryd.prog w = .ok (.value (.bool false)) w := fun l c' => overlaps_apart w vb g ((i + 1) * 7) l c' 1 C cur hne hv hg (by rw [hcs]; omega)
  have hcp1 : ∀ ty dc sc, (Builtin.copy_ #[22, 22] ty #[.slice (some ⟨g, (i + 1) * 7, none⟩) (n - i) dc, .slice (some ⟨g, i * 7, none⟩) (n + 1 - i) sc]).run Tryd.prog w.drew = .ok (goInt (n - i : Nat)) (w.drew.setRow g cur1) := fun ty dc sc => by
    rw [hc1]
    exact run_copy_rowK w.drew _ _ ty 32 g ((i + 1) * 7) (n - i) dc ⟨g, i * 7, none⟩ (n + 1 - i) sc 7 cur _ (xs.drop (i * 7)) Tryd.underlying22 memSize hg (n - i) (nmin_ge (by omega)) hdl
      (seg_cells hg (i * 7) _ (seg_drop htk (by omega) (by omega))) (by rw [← Array.length_toList]; exact hl1) (fun v hv => hx1 v (List.mem_of_mem_drop hv))
  obtain ⟨cur2, hc2⟩ : ∃ cur2 : Array Value, cur2 = (splice cur1.toList (i * 7) C.toList).toArray := ⟨_, rfl⟩
  have hl2 : i * 7 + C.toList.length ≤ cur1.toList.length := by rw [hC', Array.length_toList, hs1, hcs]; omega
  have hs2 : cur2.size = cur.size := by rw [hc2, List.size_toArray, length_splice _ _ _ hl2, Array.length_toList, hs1]
  have hcp2 : ∀ ty dc, (Builtin.copy_ #[22, 22] ty #[.slice (some ⟨g, i * 7, none⟩) (n + 1 - i) dc, .slice (some ⟨vb, 0, none⟩) 1 1]).run Tryd.prog (w.drew.setRow g cur1) = .ok (goInt (1 : Nat)) ((w.drew.setRow g cur1).setRow g cur2) := fun ty dc => by
    rw [hc2]
    exact run_copy_rowK (w.drew.setRow g cur1) _ _ ty 32 g (i * 7) (n + 1 - i) dc ⟨vb, 0, none⟩ 1 1 7 cur1 32 C.toList Tryd.underlying22 memSize (setRow_heap w.drew g cur cur1 _ _ hg) 1 (nmin_le (by omega)) (by rw [hC'])
      (fun j v hj => by rw [Addr.add_lit, Nat.zero_add, cell_of_row _ _ _ _ _ _ ((setRow_other w.drew g vb cur1 hne).trans hv)]; simpa using hj) (by rw [← Array.length_toList]; exact hl2) h1
  have hfin : (w.drew.setRow g cur1).setRow g cur2 = w.drew.setRow g cur2 := setRow_setRow _ _ _ _
  have HAP : Hid (App w base 32 7 (.slice (some ⟨g, 0, none⟩) n c) (n + 1) (xs.take (i * 7) ++ C.toList ++ xs.drop (i * 7)) (w.drew.setRow g cur2) (.slice (some ⟨g, 0, none⟩) (n + 1) c)) := by
    refine ⟨ownK_of (setRow_heap w.drew g cur cur2 _ _ hg) hbg hroom hcm (by rw [hs2, hcs]) ?_, ⟨rfl, rfl, rfl, by simp, fun k _ hk => setRow_other w.drew g k _ (fun he => hk (by rw [he]; rfl))⟩, .inl rfl⟩
    have e1 : cur1.toList = splice cur.toList ((i + 1) * 7) (xs.drop (i * 7)) := by rw [hc1]
    have e2 : cur2.toList = splice cur1.toList (i * 7) C.toList := by rw [hc2]
    have e3 : cur.toList = xs.take (i * 7) ++ (xs.drop (i * 7) ++ cur.toList.drop (n * 7)) := by rw [← List.append_assoc, List.take_append_drop, ← htk, List.take_append_drop]
    have e4 : (xs.take (i * 7)).length = i * 7 := by rw [List.length_take, hxl]; omega
    rw [e2, e1, e3]
    have := ins_take (xs.take (i * 7)) (xs.drop (i * 7)) (cur.toList.drop (n * 7)) C.toList (m := (n + 1) * 7) (by rw [e4, hC', hdl]; omega) (by rw [List.length_append, hdl, List.length_drop, hcl, hC']; omega)
    rw [e4, hC', show i * 7 + 7 = (i + 1) * 7 by omega] at this
    exact this
  rw [hfin] at hcp2
  have hw1 : IntKind.i64.wrap ((i : Int) + 1) = (i : Int) + 1 := IntWalk.i64_in _ (by omega)
  have hb1 : (0 : Int) ≤ (i : Int) + 1 := by omega
  have hin : i ≤ n := by omega
  have htn : ((i : Int) + 1).toNat = i + 1 := by omega
  have hb2 : ¬ (c = i + 1) := by omega
  have hb3 : (i : Int) ≤ (n : Int) + 1 := by omega
  have hb4 : ¬ (c = i) := by omega
  have hz2 : ¬ ((i : Int) = (n : Int)) := by omega
  clear hown hx1 hv hC h1 hdl hcl hl1 hs1 hl2 hs2 hc1 hc2 hfin hg htk hcs hxl hC'
  go_enter Tryd.func42, Tryd.ntmps42
  go_wp2_with (simp only [hov])
  have mixed : Tryd.prog.follows Departure.mixedOrders = true := by kernel_rfl
  go_region_law_o (refine step_copy_run _ rfl _ _ 22 22 rfl _ _ _ _ (by simp [Act.eval, Act.put]) (by simp [Act.eval, Act.put]) (hcp1 _ _ _) ?_)
  go_wp2_with (at_builtin; refine wpList_copy_run _ rfl _ _ 22 22 rfl _ _ _ _ rfl rfl (hcp2 _ _) ?_)
  go_ret
  exact ⟨_, _, rfl, HAP.out⟩

theorem memZero : (Tryd.prog.info? 32).map (fun i => (i.zero, i.size, i.bytes)) = some (some (.agg #[.string ⟨#[]⟩, .int .i64 0, .int .i64 0, .int .i64 0, .int .i64 0, .int .u32 0, .int .i64 0]), 7, 64) := by kernel_rfl
set_option maxRecDepth 100000 in
set_option maxHeartbeats 4000000 in
/-- .. in the middle, where there is none. -/
theorem insM_grow (base g n c i : Nat) (xs : List Value) (vb : Nat) (C : Array Value) (w : World) (hown : w.ownsRow base 32 7 (.slice (some ⟨g, 0, none⟩) n c) n xs) (hx1 : oneC xs) (hv : w.heap[vb]? = some (.cells C 32 (0, 0))) (hC : C.size = 7) (h1 : oneC C.toList) (hn : n ≤ 1000000000) (hi : i < n) (hroom : ¬ n + 1 ≤ c) (hB : base ≤ w.heap.size) :
    Calls Tryd.prog 42 #[.slice (some ⟨g, 0, none⟩) n c, .int .i64 i, .slice (some ⟨vb, 0, none⟩) 1 1] w fun e w' => ∃ A' c', e = .returned (.slice A' (n + 1) c') ∧ App w base 32 7 (.slice (some ⟨g, 0, none⟩) n c) (n + 1) (xs.take (i * 7) ++ C.toList ++ xs.drop (i * 7)) w' (.slice A' (n + 1) c') := by
  obtain ⟨cur, hg, htk, hbg, hnc, hcm, hcs, hxl⟩ := ownK_row hown
  have hgv : vb < w.heap.size := (Array.getElem?_eq_some_iff.1 hv).1
  have hgg : g < w.heap.size := (Array.getElem?_eq_some_iff.1 hg).1
  have hC' : C.toList.length = 7 := by rw [Array.length_toList, hC]
  have hdl : (xs.drop (i * 7)).length = (n - i) * 7 := by rw [List.length_drop, hxl, Nat.sub_mul]
  have htl : (xs.take (i * 7)).length = i * 7 := by rw [List.length_take, hxl]; omega
  have hcl : cur.toList.length = c * 7 := by rw [Array.length_toList, hcs]
  obtain rfl : c = n := by omega
  obtain ⟨ti, hti, hz0, hsz0, hbz0⟩ := info_parts memZero
  obtain ⟨z, hz⟩ : ∃ z : Value, z = .agg #[.string ⟨#[]⟩, .int .i64 0, .int .i64 0, .int .i64 0, .int .i64 0, .int .u32 0, .int .i64 0] := ⟨_, rfl⟩
  have hzs : z.cells.size = 7 := by rw [hz]; rfl
  rw [← hz] at hz0
  obtain ⟨G, hG⟩ : ∃ G, grownCap w (c + 1) c 32 = G := ⟨_, rfl⟩
  have hGn : c + 1 ≤ G := by rw [← hG]; exact grownCap_ge w _ _ _
  have hGm : G ≤ maxLen := by rw [← hG]; exact grownCap_le_maxLen w (c + 1) c _ (by unfold maxLen; omega)
  obtain ⟨R, hR⟩ : ∃ R : List Value, R = (Builtin.zeroCells z.cells (c + 1 - i)).toList ++ (Builtin.zeroCells z.cells (G - (c + 1))).toList := ⟨_, rfl⟩
  have hRl : R.length = (G - i) * 7 := by rw [hR, List.length_append, Array.length_toList, Array.length_toList, size_zeroCells, size_zeroCells, hzs]; omega
  obtain ⟨row, hrow⟩ : ∃ row : Array Value, row = (xs.take (i * 7) ++ R).toArray := ⟨_, rfl⟩
  have hrs : row.size = G * 7 := by rw [hrow, List.size_toArray, List.length_append, htl, hRl]; omega
  obtain ⟨W1, hW1⟩ : ∃ W1, W1 = w.drew.alloc (.cells row 32) := ⟨_, rfl⟩
  have hold : (Builtin.firstCells ti.size i (.slice (some ⟨g, 0, none⟩) i c)).run Tryd.prog w.drew = .ok (xs.take (i * 7)).toArray w.drew := run_firstCells_some (P := Tryd.prog) w.drew ti.size i ⟨g, 0, none⟩ i c (xs.take (i * 7)) (by rw [hsz0, htl]) (fun j u hj => by
    have hlt := (List.getElem?_eq_some_iff.1 hj).1
    have := seg_cells (w := w.drew) hg 0 xs (by rw [List.drop_zero, hxl]; exact htk) j u (by rw [← hj, List.getElem?_take_of_lt (by rw [htl] at hlt; exact hlt)])
    exact this)
  have hrz : ∀ ty, (Builtin.append_ #[22, 3] ty #[.slice (some ⟨g, 0, none⟩) i c, .int .i64 ((c : Int) + 1 - (i : Int))]).run Tryd.prog w = .ok (.slice (some ⟨w.heap.size, 0, none⟩) (c + 1) G) W1 := fun ty => by
    have h := Lib.run_append_grow_zeros w 22 3 ty 32 ti z .i64 .i64 Tryd.underlying22 Tryd.underlying3 hti hz0 (some ⟨g, 0, none⟩) i c (xs.take (i * 7)) hold (c + 1 - i) (by omega) (by omega) (by omega) (by omega) (by rw [hbz0]; omega) (by rw [hbz0, show i + (c + 1 - i) = c + 1 by omega]; exact growslice_fits (by omega) (by omega))
    rw [show i + (c + 1 - i) = c + 1 by omega, hG] at h
    rw [show ((c : Int) + 1 - (i : Int)) = ((c + 1 - i : Nat) : Int) by omega, h, hW1, hrow, hR]
    congr 3
    apply Array.toList_inj.1
    simp
  have hrow1 : W1.heap[w.heap.size]? = some (.cells row 32 (0, 0)) := by rw [hW1]; exact heap_alloc_new w.drew _
  have hg1 : W1.heap[g]? = some (.cells cur 32 (0, 0)) := by rw [hW1]; exact (Below.heap_alloc w.drew _ g hgg).trans hg
  have hv1 : W1.heap[vb]? = some (.cells C 32 (0, 0)) := by rw [hW1]; exact (Below.heap_alloc w.drew _ vb hgv).trans hv
  obtain ⟨cur1, hc1⟩ : ∃ cur1 : Array Value, cur1 = (splice row.toList (i * 7) C.toList).toArray := ⟨_, rfl⟩
  have hl1 : i * 7 + C.toList.length ≤ row.toList.length := by rw [hC', Array.length_toList, hrs]; omega
  have hs1 : cur1.size = G * 7 := by rw [hc1, List.size_toArray, length_splice _ _ _ hl1, Array.length_toList, hrs]
  obtain ⟨W2, hW2⟩ : ∃ W2, W2 = W1.setRow w.heap.size cur1 := ⟨_, rfl⟩
  have hcp1 : ∀ ty dc, (Builtin.copy_ #[22, 22] ty #[.slice (some ⟨w.heap.size, i * 7, none⟩) (c + 1 - i) dc, .slice (some ⟨vb, 0, none⟩) 1 1]).run Tryd.prog W1 = .ok (goInt (1 : Nat)) W2 := fun ty dc => by
    rw [hW2, hc1]
    exact run_copy_rowK W1 _ _ ty 32 w.heap.size (i * 7) (c + 1 - i) dc ⟨vb, 0, none⟩ 1 1 7 row 32 C.toList Tryd.underlying22 memSize hrow1 1 (nmin_le (by omega)) (by rw [hC'])
      (fun j v hj => by rw [Addr.add_lit, Nat.zero_add, cell_of_row _ _ _ _ _ _ hv1]; simpa using hj) (by rw [← Array.length_toList]; exact hl1) h1
  have hrow2 : W2.heap[w.heap.size]? = some (.cells cur1 32 (0, 0)) := by rw [hW2]; exact setRow_heap W1 _ row cur1 _ _ hrow1
  have hg2 : W2.heap[g]? = some (.cells cur 32 (0, 0)) := by rw [hW2]; exact (setRow_other W1 _ g cur1 (by omega)).trans hg1
  obtain ⟨cur2, hc2⟩ : ∃ cur2 : Array Value, cur2 = (splice cur1.toList ((i + 1) * 7) (xs.drop (i * 7))).toArray := ⟨_, rfl⟩
  have hl2 : (i + 1) * 7 + (xs.drop (i * 7)).length ≤ cur1.toList.length := by rw [hdl, Array.length_toList, hs1]; omega
  have hs2 : cur2.size = G * 7 := by rw [hc2, List.size_toArray, length_splice _ _ _ hl2, Array.length_toList, hs1]
  obtain ⟨W3, hW3⟩ : ∃ W3, W3 = W2.drew.setRow w.heap.size cur2 := ⟨_, rfl⟩
  have hcp2 : ∀ ty dc sc, (Builtin.copy_ #[22, 22] ty #[.slice (some ⟨w.heap.size, (i + 1) * 7, none⟩) (c - i) dc, .slice (some ⟨g, i * 7, none⟩) (c - i) sc]).run Tryd.prog W2.drew = .ok (goInt (c - i : Nat)) W3 := fun ty dc sc => by
    rw [hW3, hc2]
    exact run_copy_rowK W2.drew _ _ ty 32 w.heap.size ((i + 1) * 7) (c - i) dc ⟨g, i * 7, none⟩ (c - i) sc 7 cur1 _ (xs.drop (i * 7)) Tryd.underlying22 memSize hrow2 (c - i) (nmin_ge (Nat.le_refl _)) hdl
      (seg_cells (w := W2.drew) hg2 (i * 7) _ (seg_drop htk (by omega) (by omega))) (by rw [← Array.length_toList]; exact hl2) (fun v hv => hx1 v (List.mem_of_mem_drop hv))
  have HAP : Hid (App w base 32 7 (.slice (some ⟨g, 0, none⟩) c c) (c + 1) (xs.take (i * 7) ++ C.toList ++ xs.drop (i * 7)) W3 (.slice (some ⟨w.heap.size, 0, none⟩) (c + 1) G)) := by
    have hsz1 : W1.heap.size = w.heap.size + 1 := by rw [hW1]; simp
    refine ⟨ownK_of (cur := cur2) (by rw [hW3]; exact setRow_heap W2.drew _ cur1 cur2 _ _ hrow2) hB hGn hGm hs2 ?_, ⟨by rw [hW3, hW2, hW1]; rfl, by rw [hW3, hW2, hW1]; rfl, by rw [hW3, hW2, hW1]; rfl, by rw [hW3, hW2, hW1]; simp, fun k hk hne => ?_⟩, .inr ⟨_, rfl, Nat.le_refl _⟩⟩
    · have e1 : cur1.toList = splice row.toList (i * 7) C.toList := by rw [hc1]
      have e2 : cur2.toList = splice cur1.toList ((i + 1) * 7) (xs.drop (i * 7)) := by rw [hc2]
      have e3 : row.toList = xs.take (i * 7) ++ R := by rw [hrow]
      rw [e2, e1]
      have hso := splice_over (L := row.toList) (X := C.toList) (Y := xs.drop (i * 7)) (o := i * 7) hl1
      rw [hC', show i * 7 + 7 = (i + 1) * 7 by omega] at hso
      rw [hso, e3]
      unfold splice
      rw [List.take_left' htl, ← List.append_assoc, List.take_append_of_le_length (by simp only [List.length_append, htl, hC', hdl]; omega), List.append_assoc]
      exact List.take_of_length_le (by simp only [List.length_append, htl, hC', hdl]; omega)
    · rw [hW3]
      refine (setRow_other W2.drew _ k cur2 (by omega)).trans ?_
      show W2.heap[k]? = _
      rw [hW2]
      refine (setRow_other W1 _ k cur1 (by omega)).trans ?_
      rw [hW1]
      exact Below.heap_alloc w.drew _ k hk
  have hw1 : IntKind.i64.wrap ((i : Int) + 1) = (i : Int) + 1 := IntWalk.i64_in _ (by omega)
  have hw2 : IntKind.i64.wrap ((c : Int) + 1 - (i : Int)) = (c : Int) + 1 - (i : Int) := IntWalk.i64_in _ (by omega)
  have hb1 : (0 : Int) ≤ (i : Int) + 1 := by omega
  have hin : i ≤ c := by omega
  have htn : ((i : Int) + 1).toNat = i + 1 := by omega
  have hb2 : ¬ (G = i + 1) := by omega
  have hb2' : ¬ (G = i) := by omega
  have hb3 : (i : Int) ≤ (c : Int) + 1 := by omega
  have hb4 : ¬ (c = i) := by omega
  have hz2 : ¬ ((i : Int) = (c : Int)) := by omega
  clear hown hx1 hv hC h1 hdl hcl hl1 hs1 hl2 hs2 hc1 hc2 hg htk hcs hxl hC' hW1 hW2 hW3 hrow1 hg1 hv1 hrow2 hg2 hrs hrow hRl hR hG hold hti hz0 hsz0 hbz0 hz hzs htl hnc
  have mixed : Tryd.prog.follows Departure.mixedOrders = true := by kernel_rfl
  go_enter Tryd.func42, Tryd.ntmps42
  go_wp2_with (first
    | (at_builtin; refine wpList_append_run _ rfl _ _ _ _ rfl _ _ _ _ rfl rfl (hrz _) ?_)
    | (at_builtin; refine wpList_copy_run _ rfl _ _ 22 22 rfl _ _ _ _ rfl rfl (hcp1 _ _) ?_))
  go_region_law_o (refine step_copy_run _ rfl _ _ 22 22 rfl _ _ _ _ (by simp [Act.eval, Act.put]) (by simp [Act.eval, Act.put]) (hcp2 _ _ _) ?_)
  go_wp2
  go_ret
  exact ⟨_, _, rfl, HAP.out⟩

/-- slices.Insert of one member. -/
theorem insM_any (base : Nat) (A : Option Addr) (n c i : Nat) (xs : List Value) (vb : Nat) (C : Array Value) (w : World) (hown : w.ownsRow base 32 7 (.slice A n c) n xs) (hx1 : oneC xs) (hv : w.heap[vb]? = some (.cells C 32 (0, 0))) (hC : C.size = 7) (h1 : oneC C.toList) (hn : n ≤ 1000000000) (hi : i ≤ n) (hne : ¬ ownS (.slice A n c) vb) (hB : base ≤ w.heap.size) :
    Calls Tryd.prog 42 #[.slice A n c, .int .i64 i, .slice (some ⟨vb, 0, none⟩) 1 1] w fun e w' => ∃ A' c', e = .returned (.slice A' (n + 1) c') ∧ App w base 32 7 (.slice A n c) (n + 1) (xs.take (i * 7) ++ C.toList ++ xs.drop (i * 7)) w' (.slice A' (n + 1) c') := by
  by_cases h : i = n
  · subst h
    have := insM_end base A i c xs vb C w hown hv hC h1 hn hB
    rw [List.take_of_length_le (by rw [hown.1]; exact Nat.le_refl _), List.drop_of_length_le (by rw [hown.1]; exact Nat.le_refl _), List.append_nil]
    exact this
  · rcases ownK_form hown with ⟨_, h0⟩ | ⟨g, c', he⟩
    · omega
    · injection he with hA _ hc
      subst hA hc
      have hne' : vb ≠ g := fun e => hne (by subst e; rfl)
      by_cases hr : n + 1 ≤ c
      · exact insM_room base g n c i xs vb C w hown hx1 hv hC h1 hn (by omega) hne' hr
      · exact insM_grow base g n c i xs vb C w hown hx1 hv hC h1 hn (by omega) hr hB

theorem zeroOne (k : Nat) : ∀ v ∈ (Builtin.zeroCells (Value.agg #[.string ⟨#[]⟩, .int .i64 0, .int .i64 0, .int .i64 0, .int .i64 0, .int .u32 0, .int .i64 0]).cells k).toList, v.oneCell' = true := by
  intro v hv
  unfold Builtin.zeroCells at hv
  simp only [Array.toList_map, List.mem_map] at hv
  obtain ⟨j, _, rfl⟩ := hv
  have hj : j % 7 < 7 := Nat.mod_lt _ (by omega)
  show (#[Value.string ⟨#[]⟩, .int .i64 0, .int .i64 0, .int .i64 0, .int .i64 0, .int .u32 0, .int .i64 0][j % 7]!).oneCell' = true
  generalize j % 7 = r at hj
  match r, hj with
  | 0, _ => rfl
  | 1, _ => rfl
  | 2, _ => rfl
  | 3, _ => rfl
  | 4, _ => rfl
  | 5, _ => rfl
  | 6, _ => rfl

theorem del_run (base g n c i : Nat) (xs : List Value) (w : World) (hown : w.ownsRow base 32 7 (.slice (some ⟨g, 0, none⟩) n c) n xs) (hx1 : oneC xs) (hi : i < n) : ∃ W1 W2 : World,
    (∀ ty xc (pa : Addr), (∀ j v, (xs.drop ((i + 1) * 7))[j]? = some v → w.drew.cell? (pa.add j) = some v) → (Builtin.append_ #[22, 22] ty #[.slice (some ⟨g, 0, none⟩) i c, .slice (some pa) (n - (i + 1)) xc]).run Tryd.prog w.drew = .ok (.slice (some ⟨g, 0, none⟩) (n - 1) c) W1) ∧
    (∀ ty dc, (Builtin.clear_ #[22] ty #[.slice (some ⟨g, (n - 1) * 7, none⟩) 1 dc]).run Tryd.prog W1 = .ok (.tuple #[]) W2) ∧
    App w base 32 7 (.slice (some ⟨g, 0, none⟩) n c) (n - 1) (xs.take (i * 7) ++ xs.drop ((i + 1) * 7)) W2 (.slice (some ⟨g, 0, none⟩) (n - 1) c) ∧ (n = i + 1 → W1 = w.drew) := by
  obtain ⟨cur, hg, htk, hbg, hnc, hcm, hcs, hxl⟩ := ownK_row hown
  have hdl : (xs.drop ((i + 1) * 7)).length = (n - (i + 1)) * 7 := by rw [List.length_drop, hxl, Nat.sub_mul]
  have hcl : cur.toList.length = c * 7 := by rw [Array.length_toList, hcs]
  obtain ⟨ti, hti, hz0, hsz0, hbz0⟩ := info_parts memZero
  obtain ⟨cur1, hc1⟩ : ∃ cur1 : Array Value, cur1 = (splice cur.toList (i * 7) (xs.drop ((i + 1) * 7))).toArray := ⟨_, rfl⟩
  have hl1 : i * 7 + (xs.drop ((i + 1) * 7)).length ≤ cur.toList.length := by rw [hdl, hcl]; omega
  have hs1 : cur1.size = c * 7 := by rw [hc1, List.size_toArray, length_splice _ _ _ hl1, Array.length_toList, hcs]
  have hn1 : i + (n - (i + 1)) = n - 1 := by omega
  have hg1 : (w.drew.setRow g cur1).heap[g]? = some (.cells cur1 32 (0, 0)) := setRow_heap w.drew g cur cur1 _ _ hg
  obtain ⟨zl, hzl⟩ : ∃ zl : List Value, zl = (Builtin.zeroCells (Value.agg #[.string ⟨#[]⟩, .int .i64 0, .int .i64 0, .int .i64 0, .int .i64 0, .int .u32 0, .int .i64 0]).cells 1).toList := ⟨_, rfl⟩
  have hzn : zl.length = 7 := by rw [hzl, Array.length_toList, size_zeroCells]; rfl
  obtain ⟨cur2, hc2⟩ : ∃ cur2 : Array Value, cur2 = (splice cur1.toList ((n - 1) * 7) zl).toArray := ⟨_, rfl⟩
  have hl2 : (n - 1) * 7 + zl.length ≤ cur1.toList.length := by rw [hzn, Array.length_toList, hs1]; omega
  have hs2 : cur2.size = c * 7 := by rw [hc2, List.size_toArray, length_splice _ _ _ hl2, Array.length_toList, hs1]
  refine ⟨w.drew.setRow g cur1, (w.drew.setRow g cur1).setRow g cur2, fun ty xc pa hsrc => ?_, fun ty dc => ?_, ?_, fun he => ?_⟩
  · have h := run_append_room (P := Tryd.prog) w.drew 22 ty 32 g i c pa (n - (i + 1)) xc 7 cur _ (xs.drop ((i + 1) * 7)) Tryd.underlying22 memSize hg hdl (by omega) hsrc (by rw [← Array.length_toList]; exact hl1) (fun v hv => hx1 v (List.mem_of_mem_drop hv))
    rw [hn1] at h
    rw [h, hc1]
  · have h := run_clear_row (P := Tryd.prog) (w.drew.setRow g cur1) 22 ty 32 g ((n - 1) * 7) 1 dc 7 _ ti cur1 _ Tryd.underlying22 hti hz0 rfl hg1 (by omega) (by rw [hs1]; omega) (zeroOne 1)
    rw [h, hc2, hzl]
  · rw [setRow_setRow]
    refine ⟨ownK_of (setRow_heap w.drew g cur cur2 _ _ hg) hbg (by omega) hcm hs2 ?_, ⟨rfl, rfl, rfl, by simp, fun k _ hk => setRow_other w.drew g k _ (fun he => hk (by rw [he]; rfl))⟩, .inl rfl⟩
    have e1 : cur1.toList = splice cur.toList (i * 7) (xs.drop ((i + 1) * 7)) := by rw [hc1]
    have e2 : cur2.toList = splice cur1.toList ((n - 1) * 7) zl := by rw [hc2]
    have e3 : cur.toList.take (i * 7) = xs.take (i * 7) := by rw [← htk, List.take_take]; congr 1; omega
    have e4 : (xs.take (i * 7)).length = i * 7 := by rw [List.length_take, hxl]; omega
    have hP : (xs.take (i * 7) ++ xs.drop ((i + 1) * 7)).length = (n - 1) * 7 := by rw [List.length_append, e4, hdl]; omega
    have e5 : cur1.toList = (xs.take (i * 7) ++ xs.drop ((i + 1) * 7)) ++ cur.toList.drop (i * 7 + (xs.drop ((i + 1) * 7)).length) := by
      rw [e1]
      unfold splice
      rw [e3, List.append_assoc]
    rw [e2]
    unfold splice
    have e6 : cur1.toList.take ((n - 1) * 7) = xs.take (i * 7) ++ xs.drop ((i + 1) * 7) := by
      rw [e5]
      exact List.take_left' hP
    rw [e6]
    exact List.take_left' hP
  · have : cur1 = cur := by
      rw [hc1, List.eq_nil_of_length_eq_zero (l := xs.drop ((i + 1) * 7)) (by rw [hdl, he]; simp), splice_nil]
    rw [this]
    exact setRow_self w.drew g cur _ _ hg

set_option maxRecDepth 100000 in
set_option maxHeartbeats 4000000 in
/-- slices.Delete of one member. -/
theorem delM_any (base g n c i : Nat) (xs : List Value) (w : World) (hown : w.ownsRow base 32 7 (.slice (some ⟨g, 0, none⟩) n c) n xs) (hx1 : oneC xs) (hn : n ≤ 1000000000) (hi : i < n) :
    Calls Tryd.prog 43 #[.slice (some ⟨g, 0, none⟩) n c, .int .i64 i, .int .i64 ((i : Int) + 1)] w fun e w' => e = .returned (.slice (some ⟨g, 0, none⟩) (n - 1) c) ∧ App w base 32 7 (.slice (some ⟨g, 0, none⟩) n c) (n - 1) (xs.take (i * 7) ++ xs.drop ((i + 1) * 7)) w' (.slice (some ⟨g, 0, none⟩) (n - 1) c) := by
  obtain ⟨W1, W2, hap, hcl, hfin, hlast⟩ := del_run base g n c i xs w hown hx1 hi
  obtain ⟨cur, hg, htk, hbg, hnc, hcm, hcs, hxl⟩ := ownK_row hown
  have HFIN := Lib.hid hfin
  have mixed : Tryd.prog.follows Departure.mixedOrders = true := by kernel_rfl
  have hb1 : (0 : Int) ≤ (i : Int) + 1 := by omega
  have htn : ((i : Int) + 1).toNat = i + 1 := by omega
  have hb2 : (i : Int) ≤ (i : Int) + 1 := by omega
  have hb3 : (i : Int) + 1 ≤ (n : Int) := by omega
  have hb5 : ¬ (c = n - 1) := by omega
  have hb6 : n - (n - 1) = 1 := by omega
  have hb7 : ¬ ((i : Int) = (i : Int) + 1) := by omega
  have hic : i ≤ c := by omega
  by_cases hce : c = i + 1
  · have hne : n = i + 1 := by omega
    obtain rfl := hlast hne
    subst hne
    obtain rfl : c = i + 1 := hce
    simp only [Nat.add_sub_cancel] at hcl hb5 hb6
    clear hown hx1 hfin hap hg htk hbg hcm hcs hxl
    go_enter Tryd.func43, Tryd.ntmps43
    go_wp2_with fail
    go_region
    go_wp2_with (at_builtin; refine wpList_clear_run _ rfl _ 22 rfl _ _ _ rfl (hcl _ _) ?_)
    go_ret
    exact ⟨rfl, HFIN.out⟩
  · have hap' : ∀ ty xc, (Builtin.append_ #[22, 22] ty #[.slice (some ⟨g, 0, none⟩) i c, .slice (some ⟨g, (i + 1) * 7, none⟩) (n - (i + 1)) xc]).run Tryd.prog w.drew = .ok (.slice (some ⟨g, 0, none⟩) (n - 1) c) W1 := fun ty xc => hap ty xc ⟨g, (i + 1) * 7, none⟩ (seg_cells (w := w.drew) hg ((i + 1) * 7) _ (seg_drop htk (by omega) (by rw [Array.length_toList, hcs]; omega)))
    clear hown hx1 hfin hap hg htk hbg hcm hcs hxl
    go_enter Tryd.func43, Tryd.ntmps43
    go_wp2_with fail
    go_region_law_o (refine step_append_run _ rfl _ _ 22 22 rfl (.slice (some ⟨g, 0, none⟩) i c) (.slice (some ⟨g, (i + 1) * 7, none⟩) (n - (i + 1)) (c - (i + 1))) _ _ (by simp [Act.eval, Act.put]) (by simp [Act.eval, Act.put]) (hap' _ _) ?_)
    go_wp2_with (at_builtin; refine wpList_clear_run _ rfl _ 22 rfl _ _ _ rfl (hcl _ _) ?_)
    go_ret
    exact ⟨rfl, HFIN.out⟩
end Go.Proofs.YtjoifgeljjgflaaDoor
