/- Layer 38: the reference: Merge. -/
import Derived.Test.YtfnkbpcimbldbaaPnQ
import Derived.Test.YtfnkbpcimbldbaaPnN
namespace Go.Proofs.Ytfnkbpcimbldbaa
open Go.RowKit

theorem likeB_any (A : Option Addr) (l c : Nat) (C : Option Addr) (l2 c2 : Nat) (fs gs : List Fi) (s : ByteArray) (B : Nat) (w : World) (hl : fs.length = l) (hl2 : gs.length = l2) (hm : l ≤ 1000000) (hm2 : l2 ≤ 1000000) (hr : Ris Fi.nm fs) (hr2 : Ris Fi.nm gs) (hb : Files w B A fs) (hb2 : Files w B C gs) :
    Calls Try.prog 17 #[.slice A l c, .slice C l2 c2, .string s] w fun e w' => e = .returned (.bool (decide ((findK Fi.nm fs s).map Fi.data = (findK Fi.nm gs s).map Fi.data))) ∧ Below w.heap.size w w' :=
  (like_any A l c C l2 c2 fs gs s B w hl hl2 hm hm2 hr hr2 hb hb2).mono fun _ _ ⟨he, n, hw⟩ => ⟨he, by rw [← hw]; exact Below.drewN (Below.refl _ _) n⟩
theorem own_apartU {w : World} {b1 b2 s1 s2 n1 n2 : Nat} {e1 e2 : TypeId} {v1 v2 : Value} {x1 x2 : List Value} (h1 : w.ownsRow b1 e1 s1 v1 n1 x1) (h2 : w.ownsRow b2 e2 s2 v2 n2 x2) (hne : e1 ≠ e2) : ∀ k, ownS v1 k → ¬ ownS v2 k := fun k hk hk2 => by
  rcases h2.2 with ⟨rfl, _⟩ | ⟨g, cap, cur, rfl, _, hh, _⟩
  · cases hk2
  · obtain rfl : g = k := by simpa [ownS, Value.ownBlock] using hk2
    exact own_ne h1 hh hne hk
theorem nm_with {l : List Fi} {m : Fi} {s : ByteArray} : s ∈ (withK Fi.nm l m).map Fi.nm ↔ s ∈ l.map Fi.nm ∨ s = m.nm := by
  rw [List.mem_map, List.mem_map]
  constructor
  · rintro ⟨x, hx, rfl⟩
    rcases mem_with.1 hx with rfl | ⟨h, _⟩
    · exact .inr rfl
    · exact .inl ⟨x, h, rfl⟩
  · rintro (⟨x, hx, rfl⟩ | rfl)
    · by_cases e : x.nm = m.nm
      · exact ⟨m, mem_with.2 (.inl rfl), e.symm⟩
      · exact ⟨x, mem_with.2 (.inr ⟨hx, e⟩), rfl⟩
    · exact ⟨m, mem_with.2 (.inl rfl), rfl⟩
def keptF (n : ByteArray) (o a b : List Fi) : List Fi := (keptO (findK Fi.nm o n) (findK Fi.nm a n) (findK Fi.nm b n)).toList
theorem keptF_key (o a b : List Fi) : ∀ U : List ByteArray, (U.flatMap fun n => keptF n o a b).map Fi.key = U.flatMap fun n => keptX n (keptO (findK Fi.nm o n) (findK Fi.nm a n) (findK Fi.nm b n))
  | [] => rfl
  | n :: U => by
    rw [List.flatMap_cons, List.flatMap_cons, List.map_append, keptF_key o a b U]
    congr 1
    unfold keptF keptO
    split
    · cases h : findK Fi.nm a n with
      | none => rfl
      | some f => show [f.key] = [(n, f.data)]; rw [← (findK_at h).1]; rfl
    · split
      · cases h : findK Fi.nm b n with
        | none => rfl
        | some f => show [f.key] = [(n, f.data)]; rw [← (findK_at h).1]; rfl
      · cases h : findK Fi.nm o n with
        | none => rfl
        | some f => show [f.key] = [(n, f.data)]; rw [← (findK_at h).1]; rfl
theorem keptF_mem {o a b : List Fi} {n : ByteArray} {x : Fi} (h : x ∈ keptF n o a b) : x ∈ o ∨ x ∈ a ∨ x ∈ b := by
  unfold keptF keptO at h
  split at h
  · exact .inr (.inl (findK_at (Option.mem_toList.1 h)).2)
  · split at h
    · exact .inr (.inr (findK_at (Option.mem_toList.1 h)).2)
    · exact .inl (findK_at (Option.mem_toList.1 h)).2
theorem keptF_len (n : ByteArray) (o a b : List Fi) : (keptF n o a b).length ≤ 1 := by
  unfold keptF
  cases keptO (findK Fi.nm o n) (findK Fi.nm a n) (findK Fi.nm b n) <;> simp
set_option maxRecDepth 100000 in
set_option maxHeartbeats 4000000 in
theorem refMerge_any (A0 A1 A2 : Option Addr) (l0 c0 l1 c1 l2 c2 : Nat) (o a b : List Fi) (B : Nat) (w : World) (hl0 : o.length = l0) (hl1 : a.length = l1) (hl2 : b.length = l2) (hm0 : l0 ≤ 1000) (hm1 : l1 ≤ 1000) (hm2 : l2 ≤ 1000)
    (ho : Ris Fi.nm o) (ha : Ris Fi.nm a) (hb : Ris Fi.nm b) (hfo : Files w B A0 o) (hfa : Files w B A1 a) (hfb : Files w B A2 b) (hB : B ≤ w.heap.size) :
    Calls Try.prog 8 #[.slice A0 l0 c0, .slice A1 l1 c1, .slice A2 l2 c2] w fun e w' => ∃ A' c' fs C' d' cs, e = .returned (.tuple #[.slice A' fs.length c', .slice C' cs.length d']) ∧ fs.map Fi.key = mergeL (o.map Fi.key) (a.map Fi.key) (b.map Fi.key) (uni3 (o.map Fi.key) (a.map Fi.key) (b.map Fi.key)) ∧ Files w' w'.heap.size A' fs ∧
      cs = clashL (o.map Fi.key) (a.map Fi.key) (b.map Fi.key) (uni3 (o.map Fi.key) (a.map Fi.key) (b.map Fi.key)) ∧ Cells w' w'.heap.size C' (nmV cs) ∧ Below w.heap.size w w' := by
  have HFO := Lib.hid hfo
  have HFA := Lib.hid hfa
  have HFB := Lib.hid hfb
  have HRO := Lib.hid ho
  have HRA := Lib.hid ha
  have HRB := Lib.hid hb
  have HL0 := Lib.hid hl0
  have HL1 := Lib.hid hl1
  have HL2 := Lib.hid hl2
  have HB := Lib.hid hB
  clear hfo hfa hfb ho ha hb hl0 hl1 hl2 hB
  go_enter Try.func8, Try.ntmps8
  go_wp2
  go_loopg [8, 9] l1 (fun gk v i wr => ∃ (k ca : Nat) (Aa : Option Addr) (ms : List Fi), k + gk = l1 ∧ v = .slice Aa ms.length ca ∧ i = .int .i64 (k : Int) ∧ Ris Fi.nm ms ∧ Files wr wr.heap.size Aa ms ∧ ms.length ≤ l0 + k ∧ (∀ s, s ∈ ms.map Fi.nm ↔ (s ∈ o.map Fi.nm) ∨ s ∈ (a.take k).map Fi.nm) ∧ Below w.heap.size w wr)
  case atStart => exact ⟨0, c0, A0, o, by omega, by rw [HL0.out], rfl, HRO.out, HFO.out.more HB.out, by have := HL0.out; omega, fun s => by rw [List.take_zero]; simp, Below.refl _ _⟩
  case round =>
    obtain ⟨k, ca, Aa, ms, hk, rfl, rfl, hrm, hfm, hlm, hnm, hbe⟩ := hrel
    have HRM := Lib.hid hrm
    have HFM := Lib.hid hfm
    have HLM := Lib.hid hlm
    have HNM := Lib.hid hnm
    have HBE := Lib.hid hbe
    clear hrm hfm hlm hnm hbe
    by_cases h : k < l1
    · obtain ⟨x, hx⟩ : ∃ x, a[k]? = some x := ⟨_, List.getElem?_eq_getElem (by have := HL1.out; omega)⟩
      obtain ⟨bb, oo, hbo, _, hc⟩ := (HFA.out.below HBE.out HB.out).row (by rw [fi_len]; have := HL1.out; omega)
      have d0 := (fi_at hc hx).1
      have HBO := Lib.hid hbo
      rw [hbo]
      have HX := Lib.hid hx
      have hki : (k : Int) < (l1 : Int) := by omega
      have hw1 : IntKind.i64.wrap ((k : Int) + 1) = (k : Int) + 1 := IntWalk.i64_in _ (by omega)
      have HW := Lib.hid (refWith25_any Aa ms.length ca ms x.nm ⟨#[]⟩ wr.heap.size wr rfl (by have := HLM.out; omega) HRM.out HFM.out (Nat.le_refl _))
      clear hx hc hbo
      go_wp2_with (go_at_call 16; refine HW.out.mono ?_; rintro e w2 ⟨A2', c2', m, hmn, _, rfl, hml, hf2, hb2⟩; have HMN := Lib.hid hmn; have HML := Lib.hid hml; have HF2 := Lib.hid hf2; have HB2 := Lib.hid hb2; clear hmn hml hf2 hb2)
      rw [← HBO.out]
      go_roundg (gk - 1)
      case measure => omega
      case rel =>
        refine ⟨k + 1, c2', A2', withK Fi.nm ms m, by omega, rfl, by go_num, HRM.out.withK m, HF2.out, by have := HML.out; have := HLM.out; omega, fun s => ?_, HBE.out.trans (HB2.out.mono HBE.out.size)⟩
        rw [nm_with, HNM.out s, HMN.out, List.take_add_one, HX.out, List.map_append, List.mem_append]
        show _ ↔ _ ∨ _ ∨ s ∈ [x.nm]
        rw [List.mem_singleton, or_assoc]
    · obtain rfl : l1 = k := by omega
      have hki : ¬ (l1 : Int) < (l1 : Int) := by omega
      have HNM : Hid (∀ s, s ∈ ms.map Fi.nm ↔ (s ∈ o.map Fi.nm) ∨ s ∈ a.map Fi.nm) := fun s => by
        have := HNM.out s
        rwa [List.take_of_length_le (by rw [HL1.out]; exact Nat.le_refl _)] at this
      go_wp2
      go_loopg [8, 10] l2 (fun gk v i wr => ∃ (k ca : Nat) (Aa : Option Addr) (ms : List Fi), k + gk = l2 ∧ v = .slice Aa ms.length ca ∧ i = .int .i64 (k : Int) ∧ Ris Fi.nm ms ∧ Files wr wr.heap.size Aa ms ∧ ms.length ≤ l0 + l1 + k ∧ (∀ s, s ∈ ms.map Fi.nm ↔ (s ∈ o.map Fi.nm ∨ s ∈ a.map Fi.nm) ∨ s ∈ (b.take k).map Fi.nm) ∧ Below w.heap.size w wr)
      case atStart => exact ⟨0, ca, Aa, ms, by omega, rfl, rfl, HRM.out, HFM.out, by have := HLM.out; omega, fun s => by rw [List.take_zero]; have := HNM.out s; rw [this]; simp, HBE.out⟩
      case round =>
        clear HRM HFM HLM HNM HBE
        obtain ⟨k, ca, Aa, ms, hk, rfl, rfl, hrm, hfm, hlm, hnm, hbe⟩ := hrel
        have HRM := Lib.hid hrm
        have HFM := Lib.hid hfm
        have HLM := Lib.hid hlm
        have HNM := Lib.hid hnm
        have HBE := Lib.hid hbe
        clear hrm hfm hlm hnm hbe
        by_cases h : k < l2
        · obtain ⟨x, hx⟩ : ∃ x, b[k]? = some x := ⟨_, List.getElem?_eq_getElem (by have := HL2.out; omega)⟩
          obtain ⟨bb, oo, hbo, _, hc⟩ := (HFB.out.below HBE.out HB.out).row (by rw [fi_len]; have := HL2.out; omega)
          have d0 := (fi_at hc hx).1
          have HBO := Lib.hid hbo
          rw [hbo]
          have HX := Lib.hid hx
          have hki : (k : Int) < (l2 : Int) := by omega
          have hw1 : IntKind.i64.wrap ((k : Int) + 1) = (k : Int) + 1 := IntWalk.i64_in _ (by omega)
          have HW := Lib.hid (refWith25_any Aa ms.length ca ms x.nm ⟨#[]⟩ wr.heap.size wr rfl (by have := HLM.out; omega) HRM.out HFM.out (Nat.le_refl _))
          clear hx hc hbo
          go_wp2_with (go_at_call 16; refine HW.out.mono ?_; rintro e w2 ⟨A2', c2', m, hmn, _, rfl, hml, hf2, hb2⟩; have HMN := Lib.hid hmn; have HML := Lib.hid hml; have HF2 := Lib.hid hf2; have HB2 := Lib.hid hb2; clear hmn hml hf2 hb2)
          rw [← HBO.out]
          go_roundg (gk - 1)
          case measure => omega
          case rel =>
            refine ⟨k + 1, c2', A2', withK Fi.nm ms m, by omega, rfl, by go_num, HRM.out.withK m, HF2.out, by have := HML.out; have := HLM.out; omega, fun s => ?_, HBE.out.trans (HB2.out.mono HBE.out.size)⟩
            rw [nm_with, HNM.out s, HMN.out, List.take_add_one, HX.out, List.map_append, List.mem_append]
            show _ ↔ _ ∨ _ ∨ s ∈ [x.nm]
            rw [List.mem_singleton, or_assoc]
        · obtain rfl : l2 = k := by omega
          have hki : ¬ (l2 : Int) < (l2 : Int) := by omega
          have HNM : Hid (∀ s, s ∈ ms.map Fi.nm ↔ (s ∈ o.map Fi.nm ∨ s ∈ a.map Fi.nm) ∨ s ∈ b.map Fi.nm) := fun s => by
            have := HNM.out s
            rwa [List.take_of_length_le (by rw [HL2.out]; exact Nat.le_refl _)] at this
          go_wp2
          obtain ⟨wr0, hw0⟩ : ∃ W, wr = W := ⟨_, rfl⟩
          rw [hw0] at HFM HBE ⊢
          clear hw0
          obtain ⟨u, hu⟩ : ∃ u, ms.length = u := ⟨_, rfl⟩
          have HUR : Hid (Ris id (ms.map Fi.nm)) := ris_map (fun _ => rfl) HRM.out
          have HUE : Hid (ms.map Fi.nm = uni3 (o.map Fi.key) (a.map Fi.key) (b.map Fi.key)) := by
            refine risK_ext HUR.out (uni_ris _) (fun s => ?_)
            have h1 := HNM.out s
            have h2 := uni3_mem (o.map Fi.key) (a.map Fi.key) (b.map Fi.key) s
            rw [h1]
            refine Iff.trans ?_ h2.symm
            rw [List.map_map, List.map_map, List.map_map]
            show _ ↔ s ∈ o.map Fi.nm ∨ s ∈ a.map Fi.nm ∨ s ∈ b.map Fi.nm
            rw [or_assoc]
          have HUL : Hid (u ≤ 3000) := by have h1 := HLM.out; show u ≤ 3000; omega
          have HU := Lib.hid hu
          rw [hu]
          clear hu
          obtain ⟨U, hU⟩ : ∃ U, ms.map Fi.nm = U := ⟨_, rfl⟩
          have HUU := Lib.hid hU
          rw [hU] at HUE HUR
          clear hU
          go_loopg [11, 12, 13, 14, 15, 16] u (fun gk v11 v12 i _ _ _ wr => ∃ (k : Nat) (Ao Ac : Option Addr) (co cc : Nat) (outs : List Fi) (cs : List ByteArray), k + gk = u ∧ v11 = .slice Ao outs.length co ∧ v12 = .slice Ac cs.length cc ∧ i = .int .i64 (k : Int) ∧ outs = (U.take k).flatMap (fun n => keptF n o a b) ∧ cs = (U.take k).flatMap (fun n => clashO n (findK Fi.nm o n) (findK Fi.nm a n) (findK Fi.nm b n)) ∧
            wr.ownsRow wr0.heap.size 33 2 (.slice Ao outs.length co) outs.length (fiCells outs) ∧ wr.ownsRow wr0.heap.size 9 1 (.slice Ac cs.length cc) cs.length (nmV cs) ∧ Below wr0.heap.size wr0 wr)
          case atStart => exact ⟨0, none, none, 0, 0, [], [], by omega, rfl, rfl, rfl, rfl, rfl, World.ownsRow_nil _ _ _ _, World.ownsRow_nil _ _ _ _, Below.refl _ _⟩
          case round =>
            obtain ⟨k, Ao, Ac, co, cc, outs, cs, hk, rfl, rfl, rfl, hout, hcs, hown, hownc, hbel⟩ := hrel

            have HOUT := Lib.hid hout
            have HCS := Lib.hid hcs
            have HO := Lib.hid hown
            have HC := Lib.hid hownc
            have HBL := Lib.hid hbel
            have hlo : outs.length ≤ 3000 := by
              rw [hout]
              exact Nat.le_trans (flat_len _ (fun n => keptF_len n o a b) _) (by rw [List.length_take]; have := HUL.out; omega)
            have hlc : cs.length ≤ 3000 := by
              rw [hcs]
              exact Nat.le_trans (flat_len _ (fun n => clashO_len n _ _ _) _) (by rw [List.length_take]; have := HUL.out; omega)
            have HWR := Lib.hid (HBE.out.trans (hbel.mono HBE.out.size))
            clear hout hcs hown hownc hbel
            by_cases h : k < u
            · obtain ⟨x, hx⟩ : ∃ x, ms[k]? = some x := ⟨_, List.getElem?_eq_getElem (by have := HU.out; omega)⟩
              have HX : Hid (U[k]? = some x.nm) := by
                show _ = _
                rw [← HUU.out, List.getElem?_map, hx]
                rfl
              obtain ⟨bb, oo, hbo, _, hc⟩ := (HFM.out.below HBL.out (Nat.le_refl _)).row (by rw [fi_len]; have := HU.out; omega)
              have d0 := (fi_at hc hx).1
              rw [hbo]
              have hki : (k : Int) < (u : Int) := by omega
              have hw1 : IntKind.i64.wrap ((k : Int) + 1) = (k : Int) + 1 := IntWalk.i64_in _ (by have := HUL.out; omega)
              obtain ⟨n, hn⟩ : ∃ n, x.nm = n := ⟨_, rfl⟩
              rw [hn] at HX d0
              have HBO := Lib.hid hbo
              have HN : Hid (∀ outs' cs', outs' = outs ++ keptF n o a b → cs' = cs ++ clashO n (findK Fi.nm o n) (findK Fi.nm a n) (findK Fi.nm b n) → outs' = (U.take (k + 1)).flatMap (fun n => keptF n o a b) ∧ cs' = (U.take (k + 1)).flatMap (fun n => clashO n (findK Fi.nm o n) (findK Fi.nm a n) (findK Fi.nm b n))) := fun outs' cs' e1 e2 => by
                rw [flat_take _ HX.out, flat_take _ HX.out, e1, e2, ← HOUT.out, ← HCS.out]
                exact ⟨rfl, rfl⟩
              have HFI : Hid (∀ V, Below w.heap.size w V → Files V B A0 o ∧ Files V B A1 a ∧ Files V B A2 b) := fun V hV => ⟨HFO.out.below hV HB.out, HFA.out.below hV HB.out, HFB.out.below hV HB.out⟩
              have HK1 : Hid (∀ V, Below w.heap.size w V → Calls Try.prog 17 #[.slice A1 l1 c1, .slice A2 l2 c2, .string n] V fun e w' => e = .returned (.bool (decide ((findK Fi.nm a n).map Fi.data = (findK Fi.nm b n).map Fi.data))) ∧ Below V.heap.size V w') := fun V hV => likeB_any A1 l1 c1 A2 l2 c2 a b n B V HL1.out HL2.out (by omega) (by omega) HRA.out HRB.out (HFI.out V hV).2.1 (HFI.out V hV).2.2
              have HK2 : Hid (∀ V, Below w.heap.size w V → Calls Try.prog 17 #[.slice A0 l0 c0, .slice A2 l2 c2, .string n] V fun e w' => e = .returned (.bool (decide ((findK Fi.nm o n).map Fi.data = (findK Fi.nm b n).map Fi.data))) ∧ Below V.heap.size V w') := fun V hV => likeB_any A0 l0 c0 A2 l2 c2 o b n B V HL0.out HL2.out (by omega) (by omega) HRO.out HRB.out (HFI.out V hV).1 (HFI.out V hV).2.2
              have HK3 : Hid (∀ V, Below w.heap.size w V → Calls Try.prog 17 #[.slice A0 l0 c0, .slice A1 l1 c1, .string n] V fun e w' => e = .returned (.bool (decide ((findK Fi.nm o n).map Fi.data = (findK Fi.nm a n).map Fi.data))) ∧ Below V.heap.size V w') := fun V hV => likeB_any A0 l0 c0 A1 l1 c1 o a n B V HL0.out HL1.out (by omega) (by omega) HRO.out HRA.out (HFI.out V hV).1 (HFI.out V hV).2.1
              clear hx hc hbo hn
              by_cases hab : (findK Fi.nm a n).map Fi.data = (findK Fi.nm b n).map Fi.data
              · have HS : Hid (keptF n o a b = (findK Fi.nm a n).toList ∧ clashO n (findK Fi.nm o n) (findK Fi.nm a n) (findK Fi.nm b n) = []) := ⟨congrArg Option.toList (if_pos (.inl hab)), if_pos (.inl hab)⟩
                rw [decide_eq_true hab] at HK1
                clear hab
                have HFN0 : Hid (∀ V, Below w.heap.size w V → Calls Try.prog 18 #[.slice A1 l1 c1, .string n] V fun e w' => e = .returned (.int .i64 (findF a n)) ∧ V = w') := fun V hV => refFind25_any A1 l1 c1 a n B V HL1.out (by omega) HRA.out (HFI.out V hV).2.1
                rcases findF_cases a n HRA.out with ⟨e1, e2⟩ | ⟨j, y, e1, hy, e2⟩
                · have HFN := HFN0
                  rw [e1] at HFN
                  have HKN : Hid (keptF n o a b = []) := by show _ = _; rw [HS.out.1, e2]; rfl
                  clear e1 e2 HFN0
                  go_wp2_with (first | (go_at_call 17; refine (HK1.out wr HWR.out).mono ?_; rintro e w2 ⟨rfl, hb2⟩; have HY2 := Lib.hid (HWR.out.trans (hb2.mono HWR.out.size)); have HZ2 := Lib.hid (hb2); clear hb2) | (go_at_call 18; refine (HFN.out w2 HY2.out).mono ?_; rintro e w9 ⟨rfl, rfl⟩))
                  rw [← HBO.out]
                  go_roundg (gk - 1)
                  case measure => omega
                  case rel =>
                    obtain ⟨f1, f2⟩ := HN.out outs cs (by rw [HKN.out, List.append_nil]) (by rw [HS.out.2, List.append_nil])
                    exact ⟨k + 1, Ao, Ac, co, cc, outs, cs, by omega, rfl, rfl, by go_num, f1, f2, (own_keep HO.out (Mod.of_below HZ2.out) (fun _ _ e => e.elim)), (own_keep HC.out (Mod.of_below HZ2.out) (fun _ _ e => e.elim)), (HBL.out.trans (HZ2.out.mono HBL.out.size))⟩
                · have HFN := HFN0
                  rw [e1] at HFN
                  have HKN : Hid (keptF n o a b = [y]) := by show _ = _; rw [HS.out.1, e2]; rfl
                  have hjl := (List.getElem?_eq_some_iff.1 hy).1
                  have tj : (0 : Int) ≤ (j : Int) := by omega
                  have hji : (j : Int) < (l1 : Int) := by have := HL1.out; omega
                  have HCY : Hid (∃ b' o', A1 = some ⟨b', o', none⟩ ∧ ∀ V, Below w.heap.size w V → V.cell? ⟨b', o' + j * 2, none⟩ = some (.string y.nm) ∧ V.cell? ⟨b', o' + j * 2 + 1, none⟩ = some (.slice y.ad y.data.length y.cp)) := by
                    obtain ⟨b', o', e, _, _⟩ := HFA.out.row (by rw [fi_len]; omega)
                    refine ⟨b', o', e, fun V hV => ?_⟩
                    obtain ⟨b2, o2, e', _, hc2⟩ := (HFI.out V hV).2.1.row (by rw [fi_len]; omega)
                    rw [e] at e'
                    injection e' with e'
                    injection e' with q1 q2 q3
                    subst q1 q2
                    exact fi_at hc2 hy
                  obtain ⟨b', o', hAe, hcy⟩ := HCY.out
                  have HCV := Lib.hid hcy
                  have HAE := Lib.hid hAe
                  rw [hAe] at HFN
                  clear e1 e2 hy hjl HCY hcy hAe HFN0
                  obtain rfl := HAE.out
                  go_wp2_with (first | (go_at_call 17; refine (HK1.out wr HWR.out).mono ?_; rintro e w2 ⟨rfl, hb2⟩; have HY2 := Lib.hid (HWR.out.trans (hb2.mono HWR.out.size)); have HZ2 := Lib.hid (hb2); clear hb2) | (go_at_call 18; refine (HFN.out w2 HY2.out).mono ?_; rintro e w9 ⟨rfl, rfl⟩; obtain ⟨y0, y1⟩ := HCV.out w2 HY2.out) | (at_builtin; have hy0 := y0; clear hy0; go_must (skip; refine wpList_app1 w2 fileElem rfl (.tmp 81) (.tmp 86) rfl wr0.heap.size (.slice Ao outs.length co) outs.length _ rfl (own_keep HO.out (Mod.of_below HZ2.out) (fun _ _ e => e.elim)) #[.string y.nm, .slice y.ad y.data.length y.cp] rfl rfl (by intro u hu; simp only [List.mem_cons, List.not_mem_nil, or_false] at hu; rcases hu with rfl | rfl <;> rfl) (by unfold maxLen; omega) (by omega) (HBL.out.trans (HZ2.out.mono HBL.out.size)).size ?_; intro A6 c6 w6 hA6; have HA6 := Lib.hid hA6; clear hA6)))
                  rw [← HBO.out]
                  go_roundg (gk - 1)
                  case measure => omega
                  case rel =>
                    have hoo : w6.ownsRow wr0.heap.size 33 2 (.slice A6 (outs ++ [y]).length c6) (outs ++ [y]).length (fiCells (outs ++ [y])) := by
                      rw [fiCells_snoc, List.length_append]
                      exact HA6.out.own
                    obtain ⟨f1, f2⟩ := HN.out (outs ++ [y]) cs (by rw [HKN.out]) (by rw [HS.out.2, List.append_nil])
                    exact ⟨k + 1, A6, Ac, c6, cc, outs ++ [y], cs, by omega, by rw [List.length_append]; rfl, rfl, by go_num, f1, f2, hoo, own_keep (own_keep HC.out (Mod.of_below HZ2.out) (fun _ _ e => e.elim)) (Mod.of_app HA6.out) (own_apartU HC.out HO.out (by decide)), (HA6.out.below (HBL.out.trans (HZ2.out.mono HBL.out.size)) (HBL.out.trans (HZ2.out.mono HBL.out.size)).size (fun k hk => (HO.out.lt k hk).1))⟩
              · rw [decide_eq_false hab] at HK1
                by_cases hob : (findK Fi.nm o n).map Fi.data = (findK Fi.nm b n).map Fi.data
                · have HS : Hid (keptF n o a b = (findK Fi.nm a n).toList ∧ clashO n (findK Fi.nm o n) (findK Fi.nm a n) (findK Fi.nm b n) = []) := ⟨congrArg Option.toList (if_pos (.inr hob.symm)), if_pos (.inr hob.symm)⟩
                  rw [decide_eq_true hob] at HK2
                  clear hab hob
                  have HFN0 : Hid (∀ V, Below w.heap.size w V → Calls Try.prog 18 #[.slice A1 l1 c1, .string n] V fun e w' => e = .returned (.int .i64 (findF a n)) ∧ V = w') := fun V hV => refFind25_any A1 l1 c1 a n B V HL1.out (by omega) HRA.out (HFI.out V hV).2.1
                  rcases findF_cases a n HRA.out with ⟨e1, e2⟩ | ⟨j, y, e1, hy, e2⟩
                  · have HFN := HFN0
                    rw [e1] at HFN
                    have HKN : Hid (keptF n o a b = []) := by show _ = _; rw [HS.out.1, e2]; rfl
                    clear e1 e2 HFN0
                    go_wp2_with (first | (go_at_call 17; refine (HK2.out w2 HY2.out).mono ?_; rintro e w3 ⟨rfl, hb3⟩; have HY3 := Lib.hid (HY2.out.trans (hb3.mono HY2.out.size)); have HZ3 := Lib.hid (HZ2.out.trans (hb3.mono HZ2.out.size)); clear hb3) | (go_at_call 17; refine (HK1.out wr HWR.out).mono ?_; rintro e w2 ⟨rfl, hb2⟩; have HY2 := Lib.hid (HWR.out.trans (hb2.mono HWR.out.size)); have HZ2 := Lib.hid (hb2); clear hb2) | (go_at_call 18; refine (HFN.out w3 HY3.out).mono ?_; rintro e w9 ⟨rfl, rfl⟩))
                    rw [← HBO.out]
                    go_roundg (gk - 1)
                    case measure => omega
                    case rel =>
                      obtain ⟨f1, f2⟩ := HN.out outs cs (by rw [HKN.out, List.append_nil]) (by rw [HS.out.2, List.append_nil])
                      exact ⟨k + 1, Ao, Ac, co, cc, outs, cs, by omega, rfl, rfl, by go_num, f1, f2, (own_keep HO.out (Mod.of_below HZ3.out) (fun _ _ e => e.elim)), (own_keep HC.out (Mod.of_below HZ3.out) (fun _ _ e => e.elim)), (HBL.out.trans (HZ3.out.mono HBL.out.size))⟩
                  · have HFN := HFN0
                    rw [e1] at HFN
                    have HKN : Hid (keptF n o a b = [y]) := by show _ = _; rw [HS.out.1, e2]; rfl
                    have hjl := (List.getElem?_eq_some_iff.1 hy).1
                    have tj : (0 : Int) ≤ (j : Int) := by omega
                    have hji : (j : Int) < (l1 : Int) := by have := HL1.out; omega
                    have HCY : Hid (∃ b' o', A1 = some ⟨b', o', none⟩ ∧ ∀ V, Below w.heap.size w V → V.cell? ⟨b', o' + j * 2, none⟩ = some (.string y.nm) ∧ V.cell? ⟨b', o' + j * 2 + 1, none⟩ = some (.slice y.ad y.data.length y.cp)) := by
                      obtain ⟨b', o', e, _, _⟩ := HFA.out.row (by rw [fi_len]; omega)
                      refine ⟨b', o', e, fun V hV => ?_⟩
                      obtain ⟨b2, o2, e', _, hc2⟩ := (HFI.out V hV).2.1.row (by rw [fi_len]; omega)
                      rw [e] at e'
                      injection e' with e'
                      injection e' with q1 q2 q3
                      subst q1 q2
                      exact fi_at hc2 hy
                    obtain ⟨b', o', hAe, hcy⟩ := HCY.out
                    have HCV := Lib.hid hcy
                    have HAE := Lib.hid hAe
                    rw [hAe] at HFN
                    clear e1 e2 hy hjl HCY hcy hAe HFN0
                    obtain rfl := HAE.out
                    go_wp2_with (first | (go_at_call 17; refine (HK2.out w2 HY2.out).mono ?_; rintro e w3 ⟨rfl, hb3⟩; have HY3 := Lib.hid (HY2.out.trans (hb3.mono HY2.out.size)); have HZ3 := Lib.hid (HZ2.out.trans (hb3.mono HZ2.out.size)); clear hb3) | (go_at_call 17; refine (HK1.out wr HWR.out).mono ?_; rintro e w2 ⟨rfl, hb2⟩; have HY2 := Lib.hid (HWR.out.trans (hb2.mono HWR.out.size)); have HZ2 := Lib.hid (hb2); clear hb2) | (go_at_call 18; refine (HFN.out w3 HY3.out).mono ?_; rintro e w9 ⟨rfl, rfl⟩; obtain ⟨y0, y1⟩ := HCV.out w3 HY3.out) | (at_builtin; have hy0 := y0; clear hy0; go_must (skip; refine wpList_app1 w3 fileElem rfl (.tmp 81) (.tmp 86) rfl wr0.heap.size (.slice Ao outs.length co) outs.length _ rfl (own_keep HO.out (Mod.of_below HZ3.out) (fun _ _ e => e.elim)) #[.string y.nm, .slice y.ad y.data.length y.cp] rfl rfl (by intro u hu; simp only [List.mem_cons, List.not_mem_nil, or_false] at hu; rcases hu with rfl | rfl <;> rfl) (by unfold maxLen; omega) (by omega) (HBL.out.trans (HZ3.out.mono HBL.out.size)).size ?_; intro A6 c6 w6 hA6; have HA6 := Lib.hid hA6; clear hA6)))
                    rw [← HBO.out]
                    go_roundg (gk - 1)
                    case measure => omega
                    case rel =>
                      have hoo : w6.ownsRow wr0.heap.size 33 2 (.slice A6 (outs ++ [y]).length c6) (outs ++ [y]).length (fiCells (outs ++ [y])) := by
                        rw [fiCells_snoc, List.length_append]
                        exact HA6.out.own
                      obtain ⟨f1, f2⟩ := HN.out (outs ++ [y]) cs (by rw [HKN.out]) (by rw [HS.out.2, List.append_nil])
                      exact ⟨k + 1, A6, Ac, c6, cc, outs ++ [y], cs, by omega, by rw [List.length_append]; rfl, rfl, by go_num, f1, f2, hoo, own_keep (own_keep HC.out (Mod.of_below HZ3.out) (fun _ _ e => e.elim)) (Mod.of_app HA6.out) (own_apartU HC.out HO.out (by decide)), (HA6.out.below (HBL.out.trans (HZ3.out.mono HBL.out.size)) (HBL.out.trans (HZ3.out.mono HBL.out.size)).size (fun k hk => (HO.out.lt k hk).1))⟩
                · rw [decide_eq_false hob] at HK2
                  have hno : ¬ ((findK Fi.nm a n).map Fi.data = (findK Fi.nm b n).map Fi.data ∨ (findK Fi.nm b n).map Fi.data = (findK Fi.nm o n).map Fi.data) := fun e => e.elim hab (fun e => hob e.symm)
                  by_cases hoa : (findK Fi.nm o n).map Fi.data = (findK Fi.nm a n).map Fi.data
                  · have HS : Hid (keptF n o a b = (findK Fi.nm b n).toList ∧ clashO n (findK Fi.nm o n) (findK Fi.nm a n) (findK Fi.nm b n) = []) := ⟨congrArg Option.toList ((if_neg hno).trans (if_pos hoa.symm)), (if_neg hno).trans (if_pos hoa.symm)⟩
                    rw [decide_eq_true hoa] at HK3
                    clear hab hob hno hoa
                    have HFN0 : Hid (∀ V, Below w.heap.size w V → Calls Try.prog 18 #[.slice A2 l2 c2, .string n] V fun e w' => e = .returned (.int .i64 (findF b n)) ∧ V = w') := fun V hV => refFind25_any A2 l2 c2 b n B V HL2.out (by omega) HRB.out (HFI.out V hV).2.2
                    rcases findF_cases b n HRB.out with ⟨e1, e2⟩ | ⟨j, y, e1, hy, e2⟩
                    · have HFN := HFN0
                      rw [e1] at HFN
                      have HKN : Hid (keptF n o a b = []) := by show _ = _; rw [HS.out.1, e2]; rfl
                      clear e1 e2 HFN0
                      go_wp2_with (first | (go_at_call 17; refine (HK3.out w3 HY3.out).mono ?_; rintro e w4 ⟨rfl, hb4⟩; have HY4 := Lib.hid (HY3.out.trans (hb4.mono HY3.out.size)); have HZ4 := Lib.hid (HZ3.out.trans (hb4.mono HZ3.out.size)); clear hb4) | (go_at_call 17; refine (HK2.out w2 HY2.out).mono ?_; rintro e w3 ⟨rfl, hb3⟩; have HY3 := Lib.hid (HY2.out.trans (hb3.mono HY2.out.size)); have HZ3 := Lib.hid (HZ2.out.trans (hb3.mono HZ2.out.size)); clear hb3) | (go_at_call 17; refine (HK1.out wr HWR.out).mono ?_; rintro e w2 ⟨rfl, hb2⟩; have HY2 := Lib.hid (HWR.out.trans (hb2.mono HWR.out.size)); have HZ2 := Lib.hid (hb2); clear hb2) | (go_at_call 18; refine (HFN.out w4 HY4.out).mono ?_; rintro e w9 ⟨rfl, rfl⟩))
                      rw [← HBO.out]
                      go_roundg (gk - 1)
                      case measure => omega
                      case rel =>
                        obtain ⟨f1, f2⟩ := HN.out outs cs (by rw [HKN.out, List.append_nil]) (by rw [HS.out.2, List.append_nil])
                        exact ⟨k + 1, Ao, Ac, co, cc, outs, cs, by omega, rfl, rfl, by go_num, f1, f2, (own_keep HO.out (Mod.of_below HZ4.out) (fun _ _ e => e.elim)), (own_keep HC.out (Mod.of_below HZ4.out) (fun _ _ e => e.elim)), (HBL.out.trans (HZ4.out.mono HBL.out.size))⟩
                    · have HFN := HFN0
                      rw [e1] at HFN
                      have HKN : Hid (keptF n o a b = [y]) := by show _ = _; rw [HS.out.1, e2]; rfl
                      have hjl := (List.getElem?_eq_some_iff.1 hy).1
                      have tj : (0 : Int) ≤ (j : Int) := by omega
                      have hji : (j : Int) < (l2 : Int) := by have := HL2.out; omega
                      have HCY : Hid (∃ b' o', A2 = some ⟨b', o', none⟩ ∧ ∀ V, Below w.heap.size w V → V.cell? ⟨b', o' + j * 2, none⟩ = some (.string y.nm) ∧ V.cell? ⟨b', o' + j * 2 + 1, none⟩ = some (.slice y.ad y.data.length y.cp)) := by
                        obtain ⟨b', o', e, _, _⟩ := HFB.out.row (by rw [fi_len]; omega)
                        refine ⟨b', o', e, fun V hV => ?_⟩
                        obtain ⟨b2, o2, e', _, hc2⟩ := (HFI.out V hV).2.2.row (by rw [fi_len]; omega)
                        rw [e] at e'
                        injection e' with e'
                        injection e' with q1 q2 q3
                        subst q1 q2
                        exact fi_at hc2 hy
                      obtain ⟨b', o', hAe, hcy⟩ := HCY.out
                      have HCV := Lib.hid hcy
                      have HAE := Lib.hid hAe
                      rw [hAe] at HFN
                      clear e1 e2 hy hjl HCY hcy hAe HFN0
                      obtain rfl := HAE.out
                      go_wp2_with (first | (go_at_call 17; refine (HK3.out w3 HY3.out).mono ?_; rintro e w4 ⟨rfl, hb4⟩; have HY4 := Lib.hid (HY3.out.trans (hb4.mono HY3.out.size)); have HZ4 := Lib.hid (HZ3.out.trans (hb4.mono HZ3.out.size)); clear hb4) | (go_at_call 17; refine (HK2.out w2 HY2.out).mono ?_; rintro e w3 ⟨rfl, hb3⟩; have HY3 := Lib.hid (HY2.out.trans (hb3.mono HY2.out.size)); have HZ3 := Lib.hid (HZ2.out.trans (hb3.mono HZ2.out.size)); clear hb3) | (go_at_call 17; refine (HK1.out wr HWR.out).mono ?_; rintro e w2 ⟨rfl, hb2⟩; have HY2 := Lib.hid (HWR.out.trans (hb2.mono HWR.out.size)); have HZ2 := Lib.hid (hb2); clear hb2) | (go_at_call 18; refine (HFN.out w4 HY4.out).mono ?_; rintro e w9 ⟨rfl, rfl⟩; obtain ⟨y0, y1⟩ := HCV.out w4 HY4.out) | (at_builtin; have hy0 := y0; clear hy0; go_must (skip; refine wpList_app1 w4 fileElem rfl (.tmp 81) (.tmp 86) rfl wr0.heap.size (.slice Ao outs.length co) outs.length _ rfl (own_keep HO.out (Mod.of_below HZ4.out) (fun _ _ e => e.elim)) #[.string y.nm, .slice y.ad y.data.length y.cp] rfl rfl (by intro u hu; simp only [List.mem_cons, List.not_mem_nil, or_false] at hu; rcases hu with rfl | rfl <;> rfl) (by unfold maxLen; omega) (by omega) (HBL.out.trans (HZ4.out.mono HBL.out.size)).size ?_; intro A6 c6 w6 hA6; have HA6 := Lib.hid hA6; clear hA6)))
                      rw [← HBO.out]
                      go_roundg (gk - 1)
                      case measure => omega
                      case rel =>
                        have hoo : w6.ownsRow wr0.heap.size 33 2 (.slice A6 (outs ++ [y]).length c6) (outs ++ [y]).length (fiCells (outs ++ [y])) := by
                          rw [fiCells_snoc, List.length_append]
                          exact HA6.out.own
                        obtain ⟨f1, f2⟩ := HN.out (outs ++ [y]) cs (by rw [HKN.out]) (by rw [HS.out.2, List.append_nil])
                        exact ⟨k + 1, A6, Ac, c6, cc, outs ++ [y], cs, by omega, by rw [List.length_append]; rfl, rfl, by go_num, f1, f2, hoo, own_keep (own_keep HC.out (Mod.of_below HZ4.out) (fun _ _ e => e.elim)) (Mod.of_app HA6.out) (own_apartU HC.out HO.out (by decide)), (HA6.out.below (HBL.out.trans (HZ4.out.mono HBL.out.size)) (HBL.out.trans (HZ4.out.mono HBL.out.size)).size (fun k hk => (HO.out.lt k hk).1))⟩
                  · have HS : Hid (keptF n o a b = (findK Fi.nm o n).toList ∧ clashO n (findK Fi.nm o n) (findK Fi.nm a n) (findK Fi.nm b n) = [n]) := ⟨congrArg Option.toList ((if_neg hno).trans (if_neg (fun e => hoa e.symm))), (if_neg hno).trans (if_neg (fun e => hoa e.symm))⟩
                    rw [decide_eq_false hoa] at HK3
                    clear hab hob hno hoa
                    have HFN0 : Hid (∀ V, Below w.heap.size w V → Calls Try.prog 18 #[.slice A0 l0 c0, .string n] V fun e w' => e = .returned (.int .i64 (findF o n)) ∧ V = w') := fun V hV => refFind25_any A0 l0 c0 o n B V HL0.out (by omega) HRO.out (HFI.out V hV).1
                    rcases findF_cases o n HRO.out with ⟨e1, e2⟩ | ⟨j, y, e1, hy, e2⟩
                    · have HFN := HFN0
                      rw [e1] at HFN
                      have HKN : Hid (keptF n o a b = []) := by show _ = _; rw [HS.out.1, e2]; rfl
                      clear e1 e2 HFN0
                      go_wp2_with (first | (go_at_call 17; refine (HK3.out w3 HY3.out).mono ?_; rintro e w4 ⟨rfl, hb4⟩; have HY4 := Lib.hid (HY3.out.trans (hb4.mono HY3.out.size)); have HZ4 := Lib.hid (HZ3.out.trans (hb4.mono HZ3.out.size)); clear hb4) | (go_at_call 17; refine (HK2.out w2 HY2.out).mono ?_; rintro e w3 ⟨rfl, hb3⟩; have HY3 := Lib.hid (HY2.out.trans (hb3.mono HY2.out.size)); have HZ3 := Lib.hid (HZ2.out.trans (hb3.mono HZ2.out.size)); clear hb3) | (go_at_call 17; refine (HK1.out wr HWR.out).mono ?_; rintro e w2 ⟨rfl, hb2⟩; have HY2 := Lib.hid (HWR.out.trans (hb2.mono HWR.out.size)); have HZ2 := Lib.hid (hb2); clear hb2) | (at_builtin; go_must (skip; refine wpList_app1 w4 strElemP rfl (.tmp 72) (.tmp 74) rfl wr0.heap.size (.slice Ac cs.length cc) cs.length _ rfl (own_keep HC.out (Mod.of_below HZ4.out) (fun _ _ e => e.elim)) #[.string n] rfl rfl (by intro u hu; simp only [List.mem_cons, List.not_mem_nil, or_false] at hu; subst hu; rfl) (by unfold maxLen; omega) (by omega) (Nat.le_trans HBL.out.size HZ4.out.size) ?_; intro A5 c5 w5 hA; have HA := Lib.hid hA; have HY5 := Lib.hid (hA.below HY4.out HY4.out.size (fun k hk => by have := (HC.out.lt k hk).1; have := HBE.out.size; omega)); have HO5 := Lib.hid (own_keep (own_keep HO.out (Mod.of_below HZ4.out) (fun _ _ e => e.elim)) (Mod.of_app hA) (own_apartU HO.out HC.out (by decide))); have HL5 := Lib.hid (hA.below ((HBL.out.trans (HZ4.out.mono HBL.out.size))) (Nat.le_trans HBL.out.size HZ4.out.size) (fun k hk => (HC.out.lt k hk).1)); clear hA)) | (go_at_call 18; refine (HFN.out w5 HY5.out).mono ?_; rintro e w9 ⟨rfl, rfl⟩))
                      rw [← HBO.out]
                      go_roundg (gk - 1)
                      case measure => omega
                      case rel =>
                        obtain ⟨f1, f2⟩ := HN.out outs (cs ++ [n]) (by rw [HKN.out, List.append_nil]) (by rw [HS.out.2])
                        have hoc : w5.ownsRow wr0.heap.size 9 1 (.slice A5 (cs ++ [n]).length c5) (cs ++ [n]).length (nmV (cs ++ [n])) := by
                          unfold nmV
                          rw [List.length_append, List.map_append]
                          exact HA.out.own
                        exact ⟨k + 1, Ao, A5, co, c5, outs, cs ++ [n], by omega, rfl, by rw [List.length_append]; rfl, by go_num, f1, f2, HO5.out, hoc, HL5.out⟩
                    · have HFN := HFN0
                      rw [e1] at HFN
                      have HKN : Hid (keptF n o a b = [y]) := by show _ = _; rw [HS.out.1, e2]; rfl
                      have hjl := (List.getElem?_eq_some_iff.1 hy).1
                      have tj : (0 : Int) ≤ (j : Int) := by omega
                      have hji : (j : Int) < (l0 : Int) := by have := HL0.out; omega
                      have HCY : Hid (∃ b' o', A0 = some ⟨b', o', none⟩ ∧ ∀ V, Below w.heap.size w V → V.cell? ⟨b', o' + j * 2, none⟩ = some (.string y.nm) ∧ V.cell? ⟨b', o' + j * 2 + 1, none⟩ = some (.slice y.ad y.data.length y.cp)) := by
                        obtain ⟨b', o', e, _, _⟩ := HFO.out.row (by rw [fi_len]; omega)
                        refine ⟨b', o', e, fun V hV => ?_⟩
                        obtain ⟨b2, o2, e', _, hc2⟩ := (HFI.out V hV).1.row (by rw [fi_len]; omega)
                        rw [e] at e'
                        injection e' with e'
                        injection e' with q1 q2 q3
                        subst q1 q2
                        exact fi_at hc2 hy
                      obtain ⟨b', o', hAe, hcy⟩ := HCY.out
                      have HCV := Lib.hid hcy
                      have HAE := Lib.hid hAe
                      rw [hAe] at HFN
                      clear e1 e2 hy hjl HCY hcy hAe HFN0
                      obtain rfl := HAE.out
                      go_wp2_with (first | (go_at_call 17; refine (HK3.out w3 HY3.out).mono ?_; rintro e w4 ⟨rfl, hb4⟩; have HY4 := Lib.hid (HY3.out.trans (hb4.mono HY3.out.size)); have HZ4 := Lib.hid (HZ3.out.trans (hb4.mono HZ3.out.size)); clear hb4) | (go_at_call 17; refine (HK2.out w2 HY2.out).mono ?_; rintro e w3 ⟨rfl, hb3⟩; have HY3 := Lib.hid (HY2.out.trans (hb3.mono HY2.out.size)); have HZ3 := Lib.hid (HZ2.out.trans (hb3.mono HZ2.out.size)); clear hb3) | (go_at_call 17; refine (HK1.out wr HWR.out).mono ?_; rintro e w2 ⟨rfl, hb2⟩; have HY2 := Lib.hid (HWR.out.trans (hb2.mono HWR.out.size)); have HZ2 := Lib.hid (hb2); clear hb2) | (go_at_call 18; refine (HFN.out w5 HY5.out).mono ?_; rintro e w9 ⟨rfl, rfl⟩; obtain ⟨y0, y1⟩ := HCV.out w5 HY5.out) | (at_builtin; have hy0 := y0; clear hy0; go_must (skip; refine wpList_app1 w5 fileElem rfl (.tmp 81) (.tmp 86) rfl wr0.heap.size (.slice Ao outs.length co) outs.length _ rfl HO5.out #[.string y.nm, .slice y.ad y.data.length y.cp] rfl rfl (by intro u hu; simp only [List.mem_cons, List.not_mem_nil, or_false] at hu; rcases hu with rfl | rfl <;> rfl) (by unfold maxLen; omega) (by omega) HL5.out.size ?_; intro A6 c6 w6 hA6; have HA6 := Lib.hid hA6; clear hA6)) | (at_builtin; go_must (skip; refine wpList_app1 w4 strElemP rfl (.tmp 72) (.tmp 74) rfl wr0.heap.size (.slice Ac cs.length cc) cs.length _ rfl (own_keep HC.out (Mod.of_below HZ4.out) (fun _ _ e => e.elim)) #[.string n] rfl rfl (by intro u hu; simp only [List.mem_cons, List.not_mem_nil, or_false] at hu; subst hu; rfl) (by unfold maxLen; omega) (by omega) (Nat.le_trans HBL.out.size HZ4.out.size) ?_; intro A5 c5 w5 hA; have HA := Lib.hid hA; have HY5 := Lib.hid (hA.below HY4.out HY4.out.size (fun k hk => by have := (HC.out.lt k hk).1; have := HBE.out.size; omega)); have HO5 := Lib.hid (own_keep (own_keep HO.out (Mod.of_below HZ4.out) (fun _ _ e => e.elim)) (Mod.of_app hA) (own_apartU HO.out HC.out (by decide))); have HL5 := Lib.hid (hA.below ((HBL.out.trans (HZ4.out.mono HBL.out.size))) (Nat.le_trans HBL.out.size HZ4.out.size) (fun k hk => (HC.out.lt k hk).1)); clear hA)))
                      rw [← HBO.out]
                      go_roundg (gk - 1)
                      case measure => omega
                      case rel =>
                        have hoo : w6.ownsRow wr0.heap.size 33 2 (.slice A6 (outs ++ [y]).length c6) (outs ++ [y]).length (fiCells (outs ++ [y])) := by
                          rw [fiCells_snoc, List.length_append]
                          exact HA6.out.own
                        obtain ⟨f1, f2⟩ := HN.out (outs ++ [y]) (cs ++ [n]) (by rw [HKN.out]) (by rw [HS.out.2])
                        have hoc : w5.ownsRow wr0.heap.size 9 1 (.slice A5 (cs ++ [n]).length c5) (cs ++ [n]).length (nmV (cs ++ [n])) := by
                          unfold nmV
                          rw [List.length_append, List.map_append]
                          exact HA.out.own
                        exact ⟨k + 1, A6, A5, c6, c5, outs ++ [y], cs ++ [n], by omega, by rw [List.length_append]; rfl, by rw [List.length_append]; rfl, by go_num, f1, f2, hoo, own_keep hoc (Mod.of_app HA6.out) (own_apartU hoc HO5.out (by decide)), (HA6.out.below HL5.out HL5.out.size (fun k hk => (HO.out.lt k hk).1))⟩
            · obtain rfl : k = u := by omega
              have hki : ¬ (k : Int) < (k : Int) := by omega
              go_wp2
              go_ret2
              have e0 : U.take k = U := List.take_of_length_le (by rw [← HUU.out, List.length_map, HU.out]; exact Nat.le_refl _)
              have e1 := HOUT.out
              have e2 := HCS.out
              rw [e0] at e1 e2
              refine ⟨Ao, co, outs, Ac, cc, cs, rfl, ?_, ⟨cells_of_ownF HO.out, fun f hf => ?_⟩, ?_, cells_of_ownF HC.out, HWR.out⟩
              · rw [e1, keptF_key, kept_flat, HUE.out]
              · rw [e1] at hf
                obtain ⟨n, _, hf⟩ := List.mem_flatMap.1 hf
                have key : ∀ {A : Option Addr} {l : List Fi}, Files w B A l → f ∈ l → Bytes wr wr.heap.size f.ad f.data ∧ f.data.length ≤ f.cp := fun {A l} hF hm => by
                  have := (hF.below HWR.out HB.out).each f hm
                  exact ⟨this.1.more (Nat.le_trans HB.out HWR.out.size), this.2⟩
                rcases keptF_mem hf with hf | hf | hf
                · exact key HFO.out hf
                · exact key HFA.out hf
                · exact key HFB.out hf
              · rw [e2, clash_flat, HUE.out]
end Go.Proofs.Ytfnkbpcimbldbaa
