/- Layer 25: model.with over any row, model.without; model.With, model.Without. -/
import Derived.Test.YtfnkbpcimbldbaaDoorMgQ14023
import Derived.Laws.IdiomStrings
namespace Go.Proofs.YtfnkbpcimbldbaaDoor
open Go.RowKit

/-- A row's form: nil, or in a block. -/
def Shp (A : Option Addr) (n c : Nat) : Prop := (A = none ∧ n = 0 ∧ c = 0) ∨ ∃ b o, A = some ⟨b, o, none⟩ ∧ n ≤ c
theorem Shp.of_own {w : World} {base k n c : Nat} {e : TypeId} {A : Option Addr} {xs : List Value} (h : w.ownsRow base e k (.slice A n c) n xs) : Shp A n c := by
  rcases h.2 with ⟨h1, h2⟩ | ⟨g, cap, cur, hv, _, _, hn, _⟩
  · simp only [Value.slice.injEq] at h1
    exact .inl h1
  · simp only [Value.slice.injEq] at hv
    exact .inr ⟨g, 0, hv.1, by omega⟩
end Go.Proofs.YtfnkbpcimbldbaaDoor
/- Layer 25: bytes of a text; the reference's With. -/
namespace Go.Proofs.YtfnkbpcimbldbaaDoor
open Go.RowKit

theorem toB_run (w : World) (s : ByteArray) : ∃ (cap : Nat) (W : World), (convert 9 30 (.string s)).run Tryd.prog w = .ok (.slice (some ⟨w.heap.size, 0, none⟩) s.size cap) W ∧ Below w.heap.size w W ∧ W.heap.size = w.heap.size + 1 ∧ Bytes W W.heap.size (some ⟨w.heap.size, 0, none⟩) s.data.toList ∧ s.size ≤ cap := by
  refine ⟨_, _, run_bytes_of_string w 9 30 5 s Tryd.underlying9 Tryd.underlying30 Tryd.underlying5, (Below.refl _ w).drew.alloc (Nat.le_refl _) _, by rw [World.size_alloc]; rfl, fun _ => ⟨_, 0, rfl, by rw [World.size_alloc]; exact Nat.lt_succ_self _, fun j u hj => ?_⟩, grownCap_ge w _ _ _⟩
  have hlt := (List.getElem?_eq_some_iff.1 hj).1
  rw [byteCells_length] at hlt
  have hjs : j < s.data.size := by simpa using hlt
  rw [Nat.zero_add]
  refine (cell_of_row _ _ _ _ _ _ (heap_alloc_new w.drew _)).trans ?_
  rw [bytesRow_at s _ j hjs, ← hj]
  unfold byteCells
  rw [List.getElem?_map, List.getElem?_eq_getElem hlt]
  simp
theorem withF_all {l : List Fi} {m : Fi} (h : ∀ x ∈ l, ltN x.nm m.nm = true) : withK Fi.nm l m = l ++ [m] := by
  unfold withK
  rw [List.filter_eq_self.2 h, List.filter_eq_nil_iff.2 (fun x hx => by rw [ltN_asymm (h x hx)]; decide)]
theorem withF_snoc (l : List Fi) {m x : Fi} (h : ltN m.nm x.nm = true) : withK Fi.nm (l ++ [x]) m = withK Fi.nm l m ++ [x] := by
  unfold withK
  rw [List.filter_append, List.filter_append, List.filter_cons_of_neg (by rw [ltN_asymm h]; decide), List.filter_cons_of_pos (by exact h), List.filter_nil, List.filter_nil]
  simp
theorem withF_same {l : List Fi} {m x : Fi} (h : ∀ y ∈ l, ltN y.nm m.nm = true) (e : x.nm = m.nm) : withK Fi.nm (l ++ [x]) m = l ++ [m] := by
  unfold withK
  rw [List.filter_append, List.filter_append, List.filter_cons_of_neg (by rw [e, ltN_irrefl]; decide), List.filter_cons_of_neg (by rw [e, ltN_irrefl]; decide), List.filter_nil, List.filter_nil, List.append_nil, List.append_nil,
    List.filter_eq_self.2 h, List.filter_eq_nil_iff.2 (fun y hy => by rw [ltN_asymm (h y hy)]; decide)]
theorem risF_get {l : List Fi} (h : Ris Fi.nm l) {i j : Nat} {x y : Fi} (hx : l[i]? = some x) (hy : l[j]? = some y) (hij : i < j) : ltN x.nm y.nm = true := by
  obtain ⟨h1, rfl⟩ := List.getElem?_eq_some_iff.1 hx
  obtain ⟨h2, rfl⟩ := List.getElem?_eq_some_iff.1 hy
  exact List.pairwise_iff_getElem.1 h i j h1 h2 hij
set_option maxRecDepth 100000 in
set_option maxHeartbeats 4000000 in
theorem refWith25_any (A : Option Addr) (l c : Nat) (ms : List Fi) (nm dt : ByteArray) (B : Nat) (w : World) (hl : ms.length = l) (hm : l ≤ 1000000) (hr : Ris Fi.nm ms) (hb : Files w B A ms) (hB : B ≤ w.heap.size) :
    Calls Tryd.prog 34 #[.slice A l c, .string nm, .string dt] w fun e w' => ∃ A' c' m, m.nm = nm ∧ m.data = dt.data.toList ∧ e = .returned (.slice A' (withK Fi.nm ms m).length c') ∧ (withK Fi.nm ms m).length ≤ l + 1 ∧ Files w' w'.heap.size A' (withK Fi.nm ms m) ∧ Below w.heap.size w w' := by
  obtain ⟨cap, WA, hrun, hba, hza, hby, hcp⟩ := toB_run w dt
  obtain ⟨m, hmd⟩ : ∃ m : Fi, m = ⟨nm, dt.data.toList, some ⟨w.heap.size, 0, none⟩, cap⟩ := ⟨_, rfl⟩
  have hmn : m.nm = nm := by rw [hmd]
  have hmda : m.data = dt.data.toList := by rw [hmd]
  have hdl : dt.data.toList.length = dt.size := Array.length_toList
  obtain ⟨W0, hW0⟩ : ∃ W0, WA.alloc (.cells #[.string nm, .slice (some ⟨w.heap.size, 0, none⟩) dt.size cap] 32) = W0 := ⟨_, rfl⟩
  have HB0 : Hid (Below w.heap.size w W0) := by rw [← hW0]; exact hba.alloc (by omega) _
  have HX0 : Hid (W0.heap[WA.heap.size]? = some (.cells #[.string nm, .slice (some ⟨w.heap.size, 0, none⟩) dt.size cap] 32 (0, 0))) := by rw [← hW0]; exact heap_alloc_new WA _
  have hX0s : WA.heap.size < W0.heap.size := by rw [← hW0, World.size_alloc]; omega
  have HMB : Hid (Bytes W0 W0.heap.size m.ad m.data ∧ m.data.length ≤ m.cp) := by
    rw [← hW0, hmd]
    exact ⟨(hby.alloc (Nat.le_refl _) _).more (by rw [World.size_alloc]; omega), by show dt.data.toList.length ≤ cap; omega⟩
  have HE := Lib.hid hb.each
  have HC := Lib.hid (hb.row.below HB0.out hB)
  have HFL := Lib.hid (fi_len ms)
  have HL := Lib.hid hl
  have HR := Lib.hid hr
  have HB : Hid (B ≤ W0.heap.size) := Nat.le_trans hB HB0.out.size
  have HBw := Lib.hid hB
  have HMN := Lib.hid hmn
  have HMDA := Lib.hid hmda
  have HCA : Hid (m.cells = [.string nm, .slice (some ⟨w.heap.size, 0, none⟩) dt.size cap]) := by
    show _ = _
    rw [hmd]
    unfold Fi.cells
    rw [← hdl]
  have fin : Hid (∀ (A3 : Option Addr) (c3 : Nat) (ys : List Fi) (w3 : World), ys = withK Fi.nm ms m → w3.ownsRow W0.heap.size 32 2 (.slice A3 ys.length c3) ys.length (fiCells ys) → Below W0.heap.size W0 w3 → ∃ A' c' m', m'.nm = nm ∧ m'.data = dt.data.toList ∧ Ending.returned (.slice A3 ys.length c3) = .returned (.slice A' (withK Fi.nm ms m').length c') ∧ (withK Fi.nm ms m').length ≤ l + 1 ∧ Files w3 w3.heap.size A' (withK Fi.nm ms m') ∧ Below w.heap.size w w3) := by
    rintro A3 c3 ys w3 rfl ho hbb
    refine ⟨A3, c3, m, HMN.out, HMDA.out, rfl, ?_, Files.of_own ho (fun f hf => ?_), HB0.out.trans (hbb.mono HB0.out.size)⟩
    · cases hq : hasK Fi.nm ms m.nm with
      | true => have := len_withK_there HR.out m hq; have := HL.out; omega
      | false => have := len_withK_new HR.out m hq; have := HL.out; omega
    · rcases mem_withK hf with rfl | h
      · exact ⟨(HMB.out.1.below hbb (Nat.le_refl _)).more hbb.size, HMB.out.2⟩
      · exact ⟨((((HE.out f h).1.more HBw.out).below HB0.out (Nat.le_refl _) |>.more HB0.out.size).below hbb (Nat.le_refl _)).more hbb.size, (HE.out f h).2⟩
  obtain ⟨T, hT⟩ : ∃ T, WA.heap.size = T := ⟨_, rfl⟩
  rw [hT] at HX0 hX0s hza
  clear hb hl hB hr hmn hmda hby hba hdl hcp
  subst hza
  go_enter Tryd.func34, Tryd.ntmps34
  go_wp2
  clear hrun
  go_loopg [7, 9, 10] l (fun gk v p i wr => ∃ k : Nat, ∃ pt : Bool, ∃ os : List Fi, k + gk = l ∧ i = .int .i64 k ∧ p = .bool pt ∧ os = (if pt then withK Fi.nm (ms.take k) m else ms.take k) ∧ (pt = false → ∀ x ∈ ms.take k, ltN x.nm m.nm = true) ∧ (pt = true → ∃ j x, j < k ∧ ms[j]? = some x ∧ ltN x.nm m.nm = false) ∧ wr.ownsRow W0.heap.size 32 2 v os.length (fiCells os) ∧ os.length ≤ k + 1 ∧ Below W0.heap.size W0 wr)
  case atStart => exact ⟨0, false, [], by omega, rfl, rfl, rfl, (fun _ x hx => by simp at hx), (fun h => by cases h), World.ownsRow_nil _ _ _ _, Nat.zero_le _, Below.refl _ _⟩
  case round =>
    obtain ⟨k, pt, os, hk, rfl, rfl, hos, hlow, hhi, hown, hol, hbel⟩ := hrel
    have HOWN := Lib.hid hown
    have HBL := Lib.hid hbel
    have HOS := Lib.hid hos
    have HLOW := Lib.hid hlow
    have HHI := Lib.hid hhi
    have HXB : Hid (∀ W, Below W0.heap.size W0 W → W.cell? ⟨w.heap.size + 1, 0, none⟩ = some (.string nm) ∧ W.cell? ⟨w.heap.size + 1, 1, none⟩ = some (.slice (some ⟨w.heap.size, 0, none⟩) dt.size cap)) := fun W hW => by
      have h := (hW.block _ hX0s).trans HX0.out
      exact ⟨cell_of_row _ _ _ _ _ _ h, cell_of_row _ _ _ _ _ _ h⟩
    obtain ⟨b0, b1⟩ := HXB.out wr hbel
    clear hown hbel hos hlow hhi
    obtain ⟨Ak, ck, rfl⟩ := own_form' HOWN.out
    by_cases h : k < l
    · obtain ⟨x, hx⟩ : ∃ x, ms[k]? = some x := ⟨_, List.getElem?_eq_getElem (by have := HL.out; omega)⟩
      obtain ⟨b, o, rfl, hbB, hc⟩ := HC.out (by rw [HFL.out]; have := HL.out; omega)
      have HMT : Hid (∀ W, Below W0.heap.size W0 W → W.cell? ⟨b, o + k * 2, none⟩ = some (.string x.nm) ∧ W.cell? ⟨b, o + k * 2 + 1, none⟩ = some (.slice x.ad x.data.length x.cp)) := fun W hW => fi_at (fun j u hj => (hW.cell (p := ⟨b, o + j, none⟩) (Nat.lt_of_lt_of_le hbB HB.out)).trans (hc j u hj)) hx
      obtain ⟨c0, c1⟩ := HMT.out wr HBL.out
      have HTK := Lib.hid (takeF_snoc hx)
      have HX := Lib.hid hx
      have hw1 : IntKind.i64.wrap ((k : Int) + 1) = (k : Int) + 1 := IntWalk.i64_in _ (by omega)
      clear hc hx
      cases pt with
      | true =>
        obtain ⟨j, y, hj, hy, hjl⟩ := HHI.out rfl
        have HGT : Hid (ltN m.nm x.nm = true) := by
          show _ = _
          have h1 := risF_get HR.out hy HX.out hj
          cases e : ltN m.nm y.nm with
          | true => exact ltN_trans e h1
          | false => rw [ltN_total e hjl]; exact h1
        have HJ := Lib.hid (show ∃ j x, j < k + 1 ∧ ms[j]? = some x ∧ ltN x.nm m.nm = false from ⟨j, y, by omega, hy, hjl⟩)
        have hne : (x.nm.toList == nm.toList) = false := by rw [← HMN.out, nmEq_dec]; exact decide_eq_false (fun e => ltN_ne HGT.out e.symm)
        have hne2 : ¬ x.nm.toList = nm.toList := by simpa using hne
        clear hy hjl hj
        go_wp2_with (at_builtin; go_must (skip; refine wpList_app1 _ fileElem rfl (.tmp 43) (.tmp 48) rfl W0.heap.size (.slice Ak (os.length) ck) (os.length) _ rfl HOWN.out #[.string x.nm, .slice x.ad x.data.length x.cp] rfl rfl (by intro u hu; simp only [List.mem_cons, List.not_mem_nil, or_false] at hu; rcases hu with rfl | rfl <;> rfl) (by unfold maxLen; omega) (by omega) HBL.out.size ?_; intro A3 cp3 w3 hA; have HA3 := Lib.hid hA; clear hA))
        go_roundg (gk - 1)
        case measure => omega
        case rel =>
          have ho := HA3.out.own
          refine ⟨k + 1, true, os ++ [x], by omega, by go_num, rfl, ?_, (fun h => by cases h), (fun _ => HJ.out), ?_, by rw [List.length_append, List.length_singleton]; omega, HA3.out.below HBL.out HBL.out.size (fun q hq => (HOWN.out.lt q hq).1)⟩
          · have e0 : os = withK Fi.nm (ms.take k) m := by simpa using HOS.out
            rw [if_pos rfl, HTK.out, withF_snoc _ HGT.out, e0]
          · rw [fiCells_snoc, List.length_append]
            exact ho
      | false =>
        have hos := HOS.out
        replace hos : os = ms.take k := by simpa using hos
        have HOS0 := Lib.hid hos
        clear hos HOS
        have HLO := Lib.hid (HLOW.out rfl)
        obtain ⟨q, hq⟩ : ∃ q, ltN x.nm m.nm = q := ⟨_, rfl⟩
        have HQ := Lib.hid hq
        clear hq HHI HLOW
        cases q with
        | true =>
          have hne : (x.nm.toList == nm.toList) = false := by rw [← HMN.out, nmEq_dec]; exact decide_eq_false (ltN_ne HQ.out)
          have hne2 : ¬ x.nm.toList = nm.toList := by simpa using hne
          have hne3 : (nm.toList == x.nm.toList) = false := by rw [← HMN.out, nmEq_dec]; exact decide_eq_false (fun e => ltN_ne HQ.out e.symm)
          have hne4 : ¬ nm.toList = x.nm.toList := by simpa using hne3
          have hlt0 : Op.bytesLess nm.toList x.nm.toList = false := by rw [← HMN.out]; exact bl_asymm _ _ HQ.out
          go_wp2_with (at_builtin; go_must (skip; refine wpList_app1 _ fileElem rfl (.tmp 43) (.tmp 48) rfl W0.heap.size (.slice Ak (os.length) ck) (os.length) _ rfl HOWN.out #[.string x.nm, .slice x.ad x.data.length x.cp] rfl rfl (by intro u hu; simp only [List.mem_cons, List.not_mem_nil, or_false] at hu; rcases hu with rfl | rfl <;> rfl) (by unfold maxLen; omega) (by omega) HBL.out.size ?_; intro A3 cp3 w3 hA; have HA3 := Lib.hid hA; clear hA))
          go_roundg (gk - 1)
          case measure => omega
          case rel =>
            have ho := HA3.out.own
            refine ⟨k + 1, false, os ++ [x], by omega, by go_num, rfl, ?_, (fun _ y hy => ?_), (fun h => by cases h), ?_, by rw [List.length_append, List.length_singleton]; omega, HA3.out.below HBL.out HBL.out.size (fun q hq => (HOWN.out.lt q hq).1)⟩
            · rw [if_neg (by decide), HTK.out, HOS0.out]
            · rw [HTK.out] at hy
              rcases List.mem_append.1 hy with hy | hy
              · exact HLO.out y hy
              · rw [List.mem_singleton.1 hy]; exact HQ.out
            · rw [fiCells_snoc, List.length_append]
              exact ho
        | false =>
          have HJ := Lib.hid (show ∃ j x, j < k + 1 ∧ ms[j]? = some x ∧ ltN x.nm m.nm = false from ⟨k, x, by omega, HX.out, HQ.out⟩)
          obtain ⟨q2, hq2⟩ : ∃ q2, (x.nm.toList == nm.toList) = q2 := ⟨_, rfl⟩
          have HQ2 := Lib.hid hq2
          cases q2 with
          | true =>
            have HXM : Hid (x.nm = m.nm) := (nmEq_of HQ2.out).trans HMN.out.symm
            have heq2 : x.nm.toList = nm.toList := by simpa using hq2
            have heq3 : nm.toList = x.nm.toList := heq2.symm
            have heq4 : (nm.toList == x.nm.toList) = true := by rw [heq3]; simp
            have hlt0 : Op.bytesLess nm.toList x.nm.toList = false := by rw [heq2]; exact bl_irrefl _
            have hxe : x.nm = nm := nm_eq heq2
            obtain ⟨fx, hfx⟩ : ∃ fx, x.nm = fx := ⟨_, rfl⟩
            rw [hfx] at hxe
            rw [hfx] at c0
            have hxe' := hxe.symm
            subst hxe'
            have hlt1 : Op.bytesLess nm.toList nm.toList = false := bl_irrefl _
            clear heq2 heq3 heq4 hlt0 hq2
            go_wp2_with (at_builtin; go_must (skip; refine wpList_app1 _ fileElem rfl (.tmp 32) (.tmp 34) rfl W0.heap.size (.slice Ak (os.length) ck) (os.length) _ rfl HOWN.out #[.string nm, .slice (some ⟨w.heap.size, 0, none⟩) dt.size cap] rfl rfl (by intro u hu; simp only [List.mem_cons, List.not_mem_nil, or_false] at hu; rcases hu with rfl | rfl <;> rfl) (by unfold maxLen; omega) (by omega) HBL.out.size ?_; intro A3 cp3 w3 hA; have HA3 := Lib.hid hA; have HB3 := Lib.hid (hA.below HBL.out HBL.out.size (fun q hq => (HOWN.out.lt q hq).1)); obtain ⟨d0, d1⟩ := HMT.out w3 HB3.out; rw [hfx] at d0; clear hA))
            go_roundg (gk - 1)
            case measure => omega
            case rel =>
              have ho := HA3.out.own
              have he : os ++ [m] = withK Fi.nm (ms.take (k + 1)) m := by
                rw [HTK.out, withF_same (fun y hy => HLO.out y hy) HXM.out, HOS0.out]
              refine ⟨k + 1, true, os ++ [m], by omega, by go_num, rfl, by rw [if_pos rfl]; exact he, (fun h => by cases h), (fun _ => HJ.out), ?_, by rw [List.length_append, List.length_singleton]; omega, HB3.out⟩
              rw [fiCells_snoc, List.length_append, HCA.out]
              exact ho
          | false =>
            have hne2 : ¬ x.nm.toList = nm.toList := by simpa using hq2
            have HMX : Hid (ltN m.nm x.nm = true) := ltN_gt HQ.out (fun e => by rw [e, HMN.out] at hne2; exact hne2 rfl)
            have hlt0 : Op.bytesLess nm.toList x.nm.toList = true := by have := HMX.out; rw [HMN.out] at this; exact this
            have hne3 : (nm.toList == x.nm.toList) = false := by rw [nmEq_dec]; exact decide_eq_false (fun e => hne2 (by rw [e]))
            go_wp2_with (first
              | (at_builtin; (refine wpList_app1 _ fileElem rfl (.tmp 32) (.tmp 34) rfl W0.heap.size (.slice Ak (os.length) ck) (os.length) _ rfl HOWN.out #[.string nm, .slice (some ⟨w.heap.size, 0, none⟩) dt.size cap] rfl rfl (by intro u hu; simp only [List.mem_cons, List.not_mem_nil, or_false] at hu; rcases hu with rfl | rfl <;> rfl) (by unfold maxLen; omega) (by omega) HBL.out.size ?_; intro A3 cp3 w3 hA; have HA3 := Lib.hid hA; have HB3 := Lib.hid (hA.below HBL.out HBL.out.size (fun q hq => (HOWN.out.lt q hq).1)); obtain ⟨d0, d1⟩ := HMT.out w3 HB3.out; have HO3 := Lib.hid hA.own; clear hA))
              | (at_builtin; go_must (skip; refine wpList_app1 _ fileElem rfl (.tmp 43) (.tmp 48) rfl W0.heap.size (.slice A3 (os.length + 1) cp3) (os.length + 1) _ rfl HO3.out #[.string x.nm, .slice x.ad x.data.length x.cp] rfl rfl (by intro u hu; simp only [List.mem_cons, List.not_mem_nil, or_false] at hu; rcases hu with rfl | rfl <;> rfl) (by unfold maxLen; omega) (by omega) HB3.out.size ?_; intro A5 cp5 w5 hA; have HA5 := Lib.hid hA; clear hA)))
            go_roundg (gk - 1)
            case measure => omega
            case rel =>
              have ho := HA5.out.own
              have he : os ++ [m] ++ [x] = withK Fi.nm (ms.take (k + 1)) m := by
                rw [HTK.out, withF_snoc _ HMX.out, withF_all (fun y hy => HLO.out y hy), HOS0.out]
              refine ⟨k + 1, true, os ++ [m] ++ [x], by omega, by go_num, rfl, by rw [if_pos rfl]; exact he, (fun h => by cases h), (fun _ => HJ.out), ?_, by have hl := congrArg List.length HOS0.out; rw [List.length_take] at hl; rw [List.length_append, List.length_append, List.length_singleton, List.length_singleton]; omega, HA5.out.below HB3.out HB3.out.size (fun q hq => (HO3.out.lt q hq).1)⟩
              rw [fiCells_snoc, fiCells_snoc, List.length_append, List.length_append, HCA.out]
              exact ho
    · obtain rfl : k = l := by omega
      have HTA : Hid (ms.take k = ms) := by show _ = _; rw [List.take_of_length_le (by have := HL.out; omega)]
      cases pt with
      | true =>
        have HE2 : Hid (os = withK Fi.nm ms m) := by show _ = _; have := HOS.out; rw [HTA.out] at this; simpa using this
        go_wp2
        go_ret
        exact fin.out _ _ os _ HE2.out HOWN.out HBL.out
      | false =>
        have HE2 : Hid (os ++ [m] = withK Fi.nm ms m) := by
          show _ = _
          have := HOS.out
          rw [HTA.out] at this
          have h2 := HLOW.out rfl
          rw [HTA.out] at h2
          rw [withF_all h2]
          simpa using this
        go_wp2_with (at_builtin; go_must (skip; refine wpList_app1 _ fileElem rfl (.tmp 52) (.tmp 54) rfl W0.heap.size (.slice Ak (os.length) ck) (os.length) _ rfl HOWN.out #[.string nm, .slice (some ⟨w.heap.size, 0, none⟩) dt.size cap] rfl rfl (by intro u hu; simp only [List.mem_cons, List.not_mem_nil, or_false] at hu; rcases hu with rfl | rfl <;> rfl) (by unfold maxLen; omega) (by omega) HBL.out.size ?_; intro A3 cp3 w3 hA; have HA3 := Lib.hid hA; clear hA))
        go_ret
        have ho := HA3.out.own
        have hz := fin.out A3 cp3 (os ++ [m]) w3 HE2.out (by rw [fiCells_snoc, List.length_append, HCA.out]; exact ho) (HA3.out.below HBL.out HBL.out.size (fun q hq => (HOWN.out.lt q hq).1))
        rw [List.length_append] at hz
        exact hz
end Go.Proofs.YtfnkbpcimbldbaaDoor
