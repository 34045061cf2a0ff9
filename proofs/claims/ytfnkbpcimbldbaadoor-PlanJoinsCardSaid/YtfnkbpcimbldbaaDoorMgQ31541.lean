/- Layer 38, plainly: what steps do; differences lead from map to map; what is put together. -/
import Derived.Test.YtfnkbpcimbldbaaDoorMgQ31540
namespace Go.Proofs.YtfnkbpcimbldbaaDoor
open Go.RowKit

theorem nodup_ris {l : List ByteArray} (h : Ris id l) : l.Nodup := h.imp fun {_ _} hab => ltN_ne hab
theorem ris_nms {k : KL} (h : Ris Prod.fst k) : Ris id (k.map Prod.fst) := ris_map (fun _ => rfl) h
theorem get_applyM {l : List Fi} (h : Ris Fi.nm l) {o : XO} (e : applyE l o = 0) (s : ByteArray) : getK ((applyM l o).map Fi.key) s = if s = o.nm then (if o.kd = 3 then some o.data else none) else getK (l.map Fi.key) s := by
  unfold applyM
  rw [if_pos e]
  unfold applyF
  by_cases h3 : o.kd = 3
  · rw [if_pos h3, if_pos h3, with_key, get_with (ris_key.1 h)]
    rfl
  · rw [if_neg h3, if_neg h3, out_key, get_out (ris_key.1 h)]
theorem applyAll_get : ∀ (os : List XO) {l : List Fi}, Ris Fi.nm l → (applyAll l os).1 = 0 → (os.map XO.nm).Nodup → ∀ s, getK ((applyAll l os).2.map Fi.key) s = match os.find? (fun o => decide (o.nm = s)) with
    | none => getK (l.map Fi.key) s
    | some o => if o.kd = 3 then some o.data else none
  | [], _, _, _, _, _ => rfl
  | o :: os, l, h, he, hd, s => by
    have he : (if applyE l o = 0 then applyAll (applyM l o) os else (applyE l o, [])).1 = 0 := he
    show getK ((if applyE l o = 0 then applyAll (applyM l o) os else (applyE l o, [])).2.map Fi.key) s = _
    have e : applyE l o = 0 := by
      by_cases e : applyE l o = 0
      · exact e
      · rw [if_neg e] at he; exact he
    rw [if_pos e] at he ⊢
    rw [List.map_cons, List.nodup_cons] at hd
    have ih := applyAll_get os (applyM_ris h o) he hd.2 s
    rw [ih, get_applyM h e, List.find?_cons]
    by_cases hs : s = o.nm
    · have hn : os.find? (fun o => decide (o.nm = s)) = none := by
        rw [List.find?_eq_none]
        intro x hx hxs
        exact hd.1 (List.mem_map.2 ⟨x, hx, by rw [← hs]; exact of_decide_eq_true hxs⟩)
      rw [hn, decide_eq_true hs.symm]
      simp only [if_pos hs]
    · rw [decide_eq_false (fun e => hs e.symm)]
      simp only [if_neg hs]
theorem mem_diffL {ka kb : KL} (hb : Ris Prod.fst kb) {p : PO} (h : p ∈ diffL ka kb) : getK ka p.2.1 ≠ getK kb p.2.1 ∧ ((p.1 = 3 ∧ getK kb p.2.1 = some p.2.2) ∨ (p.1 = 11 ∧ getK kb p.2.1 = none)) := by
  unfold diffL goneN putN at h
  rcases List.mem_append.1 h with h | h
  · obtain ⟨n, hn, rfl⟩ := List.mem_map.1 h
    obtain ⟨h1, h2⟩ := List.mem_filter.1 hn
    rw [Option.isNone_iff_eq_none] at h2
    refine ⟨fun e => ?_, .inr ⟨rfl, h2⟩⟩
    have e : getK ka n = getK kb n := e
    rw [h2] at e
    exact get_none.1 e h1
  · obtain ⟨x, hx, rfl⟩ := List.mem_map.1 h
    obtain ⟨h1, h2⟩ := List.mem_filter.1 hx
    have h3 : getK kb x.1 = some x.2 := (get_iff hb).2 h1
    refine ⟨fun e => ?_, .inl ⟨rfl, h3⟩⟩
    have e : getK ka x.1 = getK kb x.1 := e
    rw [h3] at e
    rw [decide_eq_true e] at h2
    cases h2
theorem diffL_has {ka kb : KL} (hb : Ris Prod.fst kb) {s : ByteArray} (h : getK ka s ≠ getK kb s) : ∃ p ∈ diffL ka kb, p.2.1 = s := by
  unfold diffL goneN putN
  cases e : getK kb s with
  | none =>
    refine ⟨(11, s, []), List.mem_append.2 (.inl (List.mem_map.2 ⟨s, List.mem_filter.2 ⟨?_, by rw [e]; rfl⟩, rfl⟩)), rfl⟩
    rw [e] at h
    by_cases hm : s ∈ ka.map Prod.fst
    · exact hm
    · exact absurd (get_none.2 hm) h
  | some d =>
    refine ⟨(3, s, d), List.mem_append.2 (.inr (List.mem_map.2 ⟨(s, d), List.mem_filter.2 ⟨(get_iff hb).1 e, ?_⟩, rfl⟩)), rfl⟩
    rw [e] at h
    rw [decide_eq_false h]
    rfl
theorem diffL_nodup {ka kb : KL} (ha : Ris Prod.fst ka) (hb : Ris Prod.fst kb) : ((diffL ka kb).map fun p => p.2.1).Nodup := by
  unfold diffL
  rw [List.map_append, List.map_map, List.map_map]
  have e1 : (goneN ka kb).map ((fun p : PO => p.2.1) ∘ fun n => (11, n, [])) = goneN ka kb := by
    conv => rhs; rw [← List.map_id (goneN ka kb)]
    rfl
  have e2 : (putN ka kb).map ((fun p : PO => p.2.1) ∘ fun x => (3, x.1, x.2)) = (putN ka kb).map Prod.fst := rfl
  rw [e1, e2, List.nodup_append]
  refine ⟨nodup_ris ((ris_nms ha).filter _), nodup_ris (ris_nms (hb.filter _)), fun x hx y hy e => ?_⟩
  subst e
  unfold goneN at hx
  have h1 := (List.mem_filter.1 hx).2
  rw [Option.isNone_iff_eq_none] at h1
  unfold putN at hy
  obtain ⟨z, hz, rfl⟩ := List.mem_map.1 hy
  have h2 := (get_iff hb).2 (List.mem_filter.1 hz).1
  rw [h1] at h2
  cases h2
theorem po_names (os : List XO) : os.map XO.nm = (os.map XO.po).map fun p => p.2.1 := by rw [List.map_map]; rfl
/-- What a difference's steps lead to. -/
theorem diff_get {ka kb : KL} (ha : Ris Prod.fst ka) (hb : Ris Prod.fst kb) {os : List XO} (ho : os.map XO.po = diffL ka kb) {l : List Fi} (h : Ris Fi.nm l) (he : (applyAll l os).1 = 0) (s : ByteArray) :
    getK ((applyAll l os).2.map Fi.key) s = if getK ka s = getK kb s then getK (l.map Fi.key) s else getK kb s := by
  have hd : (os.map XO.nm).Nodup := by rw [po_names, ho]; exact diffL_nodup ha hb
  rw [applyAll_get os h he hd s]
  cases hf : os.find? (fun o => decide (o.nm = s)) with
  | none =>
    rw [List.find?_eq_none] at hf
    by_cases e : getK ka s = getK kb s
    · rw [if_pos e]
    · obtain ⟨p, hp, hps⟩ := diffL_has hb e
      rw [← ho] at hp
      obtain ⟨o, hom, rfl⟩ := List.mem_map.1 hp
      exact absurd (decide_eq_true hps) (hf o hom)
  | some o =>
    have h1 := List.mem_of_find?_eq_some hf
    have h2 : o.nm = s := by have := List.find?_some hf; exact of_decide_eq_true this
    obtain ⟨h3, h4⟩ := mem_diffL hb (p := o.po) (by rw [← ho]; exact List.mem_map.2 ⟨o, h1, rfl⟩)
    have h3 : getK ka o.nm ≠ getK kb o.nm := h3
    rw [h2] at h3
    rw [if_neg h3]
    rcases h4 with ⟨k3, hv⟩ | ⟨k11, hv⟩
    · have k3 : o.kd = 3 := k3
      have hv : getK kb o.nm = some o.data := hv
      rw [h2] at hv
      simp only [if_pos k3]
      exact hv.symm
    · have k11 : o.kd = 11 := k11
      have hv : getK kb o.nm = none := hv
      rw [h2] at hv
      simp only [k11]
      rw [hv, if_neg (by decide)]
theorem key_names (l : List Fi) : (l.map Fi.key).map Prod.fst = l.map Fi.nm := by rw [List.map_map]; rfl
theorem kept_sym (o a b : KL) (n : ByteArray) : keptN o a b n = keptN o b a n := by
  unfold keptN
  by_cases h1 : getK a n = getK b n
  · rw [if_pos (.inl h1), if_pos (.inl h1.symm), h1]
  · by_cases h2 : getK o n = getK b n
    · rw [if_pos (.inr h2)]
      by_cases h3 : getK o n = getK a n
      · exact absurd (h3.symm.trans h2) h1
      · rw [if_neg (fun e => e.elim (fun e => h1 e.symm) h3), if_pos h2]
    · rw [if_neg (fun e => e.elim h1 h2)]
      by_cases h3 : getK o n = getK a n
      · rw [if_pos h3, if_pos (.inr h3)]
      · rw [if_neg h3, if_neg (fun e => e.elim (fun e => h1 e.symm) h3), if_neg h2]
theorem clash_sym (o a b : KL) (n : ByteArray) : clashN o a b n = clashN o b a n := by
  unfold clashN
  by_cases h1 : getK a n = getK b n
  · rw [decide_eq_true (show _ ∨ _ from .inl h1), decide_eq_true (show getK b n = getK a n ∨ getK o n = getK a n from .inl h1.symm)]; rfl
  · by_cases h2 : getK o n = getK b n
    · rw [decide_eq_true (show getK a n = getK b n ∨ getK o n = getK b n from .inr h2), decide_eq_true h2]; simp
    · by_cases h3 : getK o n = getK a n
      · rw [decide_eq_true h3, decide_eq_true (show getK b n = getK a n ∨ getK o n = getK a n from .inr h3)]; simp
      · rw [decide_eq_false (fun e => e.elim h1 h2), decide_eq_false h3, decide_eq_false (fun e => e.elim (fun e => h1 (Eq.symm e)) h3), decide_eq_false h2]
theorem uni3_sym (o a b : KL) : uni3 o a b = uni3 o b a := by
  refine risK_ext (k := id) (uni_ris _) (uni_ris _) (fun s => ?_)
  rw [uni3_mem, uni3_mem]
  constructor <;> (rintro (h | h | h); exact .inl h; exact .inr (.inr h); exact .inr (.inl h))
theorem merge_sym (o a b : KL) : mergeL o a b (uni3 o a b) = mergeL o b a (uni3 o b a) := by
  rw [uni3_sym]
  unfold mergeL
  congr 1
  funext n
  rw [kept_sym]
theorem clashL_sym (o a b : KL) : clashL o a b (uni3 o a b) = clashL o b a (uni3 o b a) := by
  rw [uni3_sym]
  unfold clashL
  congr 1
  funext n
  rw [clash_sym]
theorem merge_ris {o a b : KL} {U : List ByteArray} (hU : Ris id U) : Ris Prod.fst (mergeL o a b U) := by
  unfold mergeL
  refine ris_fmap (k := id) (fun x y h => ?_) hU
  obtain ⟨d, _, rfl⟩ := Option.map_eq_some_iff.1 h
  rfl
theorem merge_get {o a b : KL} (hk : ∀ s, keptN o a b s ≠ none → s ∈ uni3 o a b) (s : ByteArray) : getK (mergeL o a b (uni3 o a b)) s = keptN o a b s := by
  have hr : Ris Prod.fst (mergeL o a b (uni3 o a b)) := merge_ris (uni_ris _)
  have key : ∀ d, getK (mergeL o a b (uni3 o a b)) s = some d ↔ keptN o a b s = some d := fun d => by
    rw [get_iff hr]
    unfold mergeL
    rw [List.mem_filterMap]
    constructor
    · rintro ⟨n, _, h⟩
      obtain ⟨d', h1, h2⟩ := Option.map_eq_some_iff.1 h
      simp only [Prod.mk.injEq] at h2
      rw [← h2.1, ← h2.2]
      exact h1
    · intro h
      exact ⟨s, hk s (by rw [h]; exact Option.some_ne_none d), by rw [h]; rfl⟩
  cases e : keptN o a b s with
  | some d => exact (key d).2 e
  | none =>
    cases e2 : getK (mergeL o a b (uni3 o a b)) s with
    | none => rfl
    | some d => rw [(key d).1 e2] at e; cases e
theorem kept_uni (o a b : KL) (s : ByteArray) (h : keptN o a b s ≠ none) : s ∈ uni3 o a b := by
  rw [uni3_mem]
  by_cases h1 : s ∈ o.map Prod.fst
  · exact .inl h1
  · by_cases h2 : s ∈ a.map Prod.fst
    · exact .inr (.inl h2)
    · by_cases h3 : s ∈ b.map Prod.fst
      · exact .inr (.inr h3)
      · exfalso
        apply h
        unfold keptN
        rw [get_none.2 h1, get_none.2 h2, get_none.2 h3]
        simp
theorem merge_base {o a : KL} (ha : Ris Prod.fst a) : mergeL o a o (uni3 o a o) = a ∧ clashL o a o (uni3 o a o) = [] := by
  refine ⟨get_ext (merge_ris (uni_ris _)) ha (fun s => ?_), ?_⟩
  · rw [merge_get (kept_uni o a o)]
    unfold keptN
    rw [if_pos (.inr rfl)]
  · unfold clashL
    rw [List.filter_eq_nil_iff]
    intro n _
    unfold clashN
    rw [decide_eq_true (show getK a n = getK o n ∨ getK o n = getK o n from .inr rfl)]
    simp
theorem merge_self {o a : KL} (ha : Ris Prod.fst a) : mergeL o a a (uni3 o a a) = a ∧ clashL o a a (uni3 o a a) = [] := by
  refine ⟨get_ext (merge_ris (uni_ris _)) ha (fun s => ?_), ?_⟩
  · rw [merge_get (kept_uni o a a)]
    unfold keptN
    rw [if_pos (.inl rfl)]
  · unfold clashL
    rw [List.filter_eq_nil_iff]
    intro n _
    unfold clashN
    rw [decide_eq_true (show getK a n = getK a n ∨ getK o n = getK a n from .inl rfl)]
    simp
/-- Where nothing clashes, the steps from the base to the one, done with the other, lead to what is put together. -/
theorem merge_lead {o a b : List Fi} (ho : Ris Fi.nm o) (ha : Ris Fi.nm a) (hb : Ris Fi.nm b) (hc : clashL (o.map Fi.key) (a.map Fi.key) (b.map Fi.key) (uni3 (o.map Fi.key) (a.map Fi.key) (b.map Fi.key)) = []) {os : List XO} (hos : os.map XO.po = diffL (o.map Fi.key) (a.map Fi.key)) (h0 : (applyAll b os).1 = 0) :
    (applyAll b os).2.map Fi.key = mergeL (o.map Fi.key) (a.map Fi.key) (b.map Fi.key) (uni3 (o.map Fi.key) (a.map Fi.key) (b.map Fi.key)) := by
  refine get_ext (ris_key.1 (applyAll_ris os hb)) (merge_ris (uni_ris _)) (fun s => ?_)
  rw [diff_get (ris_key.1 ho) (ris_key.1 ha) hos hb h0 s, merge_get (kept_uni _ _ _)]
  have hcs : s ∈ uni3 (o.map Fi.key) (a.map Fi.key) (b.map Fi.key) → clashN (o.map Fi.key) (a.map Fi.key) (b.map Fi.key) s = false := fun hm => by
    unfold clashL at hc
    rw [List.filter_eq_nil_iff] at hc
    simpa using hc s hm
  unfold keptN
  by_cases h1 : getK (o.map Fi.key) s = getK (a.map Fi.key) s
  · rw [if_pos h1]
    by_cases h2 : getK (a.map Fi.key) s = getK (b.map Fi.key) s
    · rw [if_pos (.inl h2), h2]
    · by_cases h3 : getK (o.map Fi.key) s = getK (b.map Fi.key) s
      · exact absurd (h1.symm.trans h3) h2
      · rw [if_neg (fun e => e.elim h2 h3), if_pos h1]
  · rw [if_neg h1]
    by_cases h2 : getK (a.map Fi.key) s = getK (b.map Fi.key) s ∨ getK (o.map Fi.key) s = getK (b.map Fi.key) s
    · rw [if_pos h2]
    · exfalso
      have hm : s ∈ uni3 (o.map Fi.key) (a.map Fi.key) (b.map Fi.key) := by
        rw [uni3_mem]
        by_cases h3 : s ∈ (o.map Fi.key).map Prod.fst
        · exact .inl h3
        · by_cases h4 : s ∈ (a.map Fi.key).map Prod.fst
          · exact .inr (.inl h4)
          · exact absurd ((get_none.2 h3).trans (get_none.2 h4).symm) h1
      have h3 := hcs hm
      unfold clashN at h3
      rw [decide_eq_false h2, decide_eq_false h1] at h3
      cases h3
end Go.Proofs.YtfnkbpcimbldbaaDoor
/- Layer 38: the law PlanJoins. -/
namespace Go.Proofs.YtfnkbpcimbldbaaDoor
open Go.RowKit

def OL.xo (o : OL) : XO := ⟨o.kd, o.nm, o.data, o.ad, o.cp, .int .i64 0, .slice none 0 0, .int .i64 0, .int .u8 0⟩
theorem xo_of_ol (os : List OL) : xoCells (os.map OL.xo) = olCells os := by
  unfold xoCells olCells
  rw [List.map_map]
  rfl
theorem xo_po (os : List OL) : (os.map OL.xo).map XO.po = os.map OL.po := by
  rw [List.map_map]
  rfl
theorem xo_well (os : List OL) : ∀ x ∈ os.map OL.xo, x.well := fun x hx => by
  obtain ⟨o, _, rfl⟩ := List.mem_map.1 hx
  exact ⟨0, none, 0, 0, 0, 0, rfl, rfl, rfl, rfl⟩
theorem diffL_from {ka kb : KL} {p : PO} (h : p ∈ diffL ka kb) : (p.2.1 ∈ ka.map Prod.fst ∧ p.2.2 = []) ∨ p.2 ∈ kb := by
  unfold diffL goneN putN at h
  rcases List.mem_append.1 h with h | h
  · obtain ⟨n, hn, rfl⟩ := List.mem_map.1 h
    exact .inl ⟨(List.mem_filter.1 hn).1, rfl⟩
  · obtain ⟨x, hx, rfl⟩ := List.mem_map.1 h
    exact .inr (List.mem_filter.1 hx).1
theorem xo_ok {w : World} {B : Nat} {A : Option Addr} {os : List OL} {a b : List Fi} (hos : Ops w B A os) (hpo : os.map OL.po = diffL (a.map Fi.key) (b.map Fi.key)) (ha : ∀ f ∈ a, f.nm.size ≤ 300 ∧ f.data.length ≤ 70000) (hb : ∀ f ∈ b, f.nm.size ≤ 300 ∧ f.data.length ≤ 70000) : ∀ x ∈ os.map OL.xo, OkF w B x.fi := fun x hx => by
  obtain ⟨o, ho, rfl⟩ := List.mem_map.1 hx
  have h1 : o.po ∈ diffL (a.map Fi.key) (b.map Fi.key) := by rw [← hpo]; exact List.mem_map.2 ⟨o, ho, rfl⟩
  refine ⟨(hos.each o ho).1, ?_⟩
  rcases diffL_from h1 with ⟨h2, h3⟩ | h2
  · rw [key_names] at h2
    obtain ⟨f, hf, hfn⟩ := List.mem_map.1 h2
    have h3 : o.data = [] := h3
    have hfn : f.nm = o.nm := hfn
    exact ⟨by show o.data.length ≤ _; rw [h3]; exact Nat.zero_le _, by show o.nm.size ≤ _; rw [← hfn]; exact (ha f hf).1⟩
  · obtain ⟨f, hf, hfk⟩ := List.mem_map.1 h2
    unfold Fi.key OL.po at hfk
    simp only [Prod.mk.injEq] at hfk
    exact ⟨by show o.data.length ≤ _; rw [← hfk.2]; exact (hb f hf).2, by show o.nm.size ≤ _; rw [← hfk.1]; exact (hb f hf).1⟩
theorem merge_len (o a b : KL) : (mergeL o a b (uni3 o a b)).length ≤ o.length + a.length + b.length := by
  refine Nat.le_trans (List.length_filterMap_le _ _) (Nat.le_trans (uni_len _) ?_)
  rw [List.length_append, List.length_append, List.length_map, List.length_map, List.length_map]
  exact Nat.le_refl _
theorem clash_len (o a b : KL) : (clashL o a b (uni3 o a b)).length ≤ o.length + a.length + b.length := by
  refine Nat.le_trans (List.length_filter_le _ _) (Nat.le_trans (uni_len _) ?_)
  rw [List.length_append, List.length_append, List.length_map, List.length_map, List.length_map]
  exact Nat.le_refl _
set_option maxRecDepth 100000 in
set_option maxHeartbeats 4000000 in
theorem planJoins_any (A0 A1 A2 : Option Addr) (l0 c0 l1 c1 l2 c2 : Nat) (o a b : List Fi) (W0 : World) (hl0 : o.length = l0) (hl1 : a.length = l1) (hl2 : b.length = l2) (hc0 : l0 ≤ c0) (hc1 : l1 ≤ c1) (hc2 : l2 ≤ c2) (hfo : Files W0 W0.heap.size A0 o) (hfa : Files W0 W0.heap.size A1 a) (hfb : Files W0 W0.heap.size A2 b) :
    Calls Tryd.prog 6 #[.slice A0 l0 c0, .slice A1 l1 c1, .slice A2 l2 c2] W0 fun e w' => e = .returned (.bool true) ∧ Below W0.heap.size W0 w' := by
  have HF0 := Lib.hid hfo
  have HF1 := Lib.hid hfa
  have HF2 := Lib.hid hfb
  have HL0 := Lib.hid hl0
  have HL1 := Lib.hid hl1
  have HL2 := Lib.hid hl2
  have HLV : Hid (∀ V, Below W0.heap.size W0 V → Calls Tryd.prog 8 #[] V fun e w' => e = .returned (.bool true) ∧ Below W0.heap.size W0 w') := fun V hV => (lives38_any V).mono fun e w' ⟨h1, h2⟩ => ⟨h1, hV.trans (h2.mono hV.size)⟩
  have HFI : Hid (∀ V, Below W0.heap.size W0 V → Files V W0.heap.size A0 o ∧ Files V W0.heap.size A1 a ∧ Files V W0.heap.size A2 b) := fun V hV => ⟨HF0.out.below hV (Nat.le_refl _), HF1.out.below hV (Nat.le_refl _), HF2.out.below hV (Nat.le_refl _)⟩
  clear hfo hfa hfb hl0 hl1 hl2
  go_enter Tryd.func6, Tryd.ntmps6
  go_wp2_with fail
  refine (wide38_any A0 l0 c0 o W0.heap.size W0 HL0.out HF0.out).mono ?_
  rintro e wq ⟨o0, rfl, hwq, ho0⟩
  have HO0 := Lib.hid ho0
  subst hwq
  clear ho0
  cases o0 with
  | true =>
    go_wp2_with fail
    refine (HLV.out _ (Below.refl W0.heap.size W0)).mono ?_
    rintro e wL ⟨rfl, hbL⟩
    go_wp2
    go_ret
    exact ⟨rfl, hbL⟩
  | false =>
    have HS0 := Lib.hid (HO0.out rfl)
    have hs0 : l0 ≤ 250 := by have h1 := HS0.out.1; have h2 := HL0.out; omega
    clear HO0
    go_wp2_with fail
    refine (wide38_any A1 l1 c1 a W0.heap.size W0 HL1.out HF1.out).mono ?_
    rintro e wq ⟨o1, rfl, hwq, ho1⟩
    have HO1 := Lib.hid ho1
    subst hwq
    clear ho1
    cases o1 with
    | true =>
      go_wp2_with fail
      refine (HLV.out _ (Below.refl W0.heap.size W0)).mono ?_
      rintro e wL ⟨rfl, hbL⟩
      go_wp2
      go_ret
      exact ⟨rfl, hbL⟩
    | false =>
      have HS1 := Lib.hid (HO1.out rfl)
      have hs1 : l1 ≤ 250 := by have h1 := HS1.out.1; have h2 := HL1.out; omega
      clear HO1
      go_wp2_with fail
      refine (wide38_any A2 l2 c2 b W0.heap.size W0 HL2.out HF2.out).mono ?_
      rintro e wq ⟨o2, rfl, hwq, ho2⟩
      have HO2 := Lib.hid ho2
      subst hwq
      clear ho2
      cases o2 with
      | true =>
        go_wp2_with fail
        refine (HLV.out _ (Below.refl W0.heap.size W0)).mono ?_
        rintro e wL ⟨rfl, hbL⟩
        go_wp2
        go_ret
        exact ⟨rfl, hbL⟩
      | false =>
        have HS2 := Lib.hid (HO2.out rfl)
        have hs2 : l2 ≤ 250 := by have h1 := HS2.out.1; have h2 := HL2.out; omega
        clear HO2
        go_wp2_with fail
        obtain ⟨q0, hq0⟩ : ∃ q, mapB o = q := ⟨_, rfl⟩
        have HM0 := Lib.hid (refMap25_any A0 l0 c0 o W0.heap.size W0 HL0.out (by omega) (HFI.out W0 (Below.refl W0.heap.size W0)).1)
        rw [hq0] at HM0
        refine HM0.out.mono ?_
        rintro e w1 ⟨rfl, n0, hw0⟩
        have HY1 : Hid (Below W0.heap.size W0 w1) := by show Below _ _ _; rw [← hw0]; exact Below.drewN (Below.refl W0.heap.size W0) _
        have HQ0 := Lib.hid hq0
        clear hw0 hq0 HM0
        cases q0 with
        | false =>
          go_wp2_with fail
          refine (HLV.out _ HY1.out).mono ?_
          rintro e wL ⟨rfl, hbL⟩
          go_wp2
          go_ret
          exact ⟨rfl, hbL⟩
        | true =>
          have HR0 := Lib.hid (mapB_ris HQ0.out)
          go_wp2_with fail
          obtain ⟨q1, hq1⟩ : ∃ q, mapB a = q := ⟨_, rfl⟩
          have HM1 := Lib.hid (refMap25_any A1 l1 c1 a W0.heap.size w1 HL1.out (by omega) (HFI.out w1 HY1.out).2.1)
          rw [hq1] at HM1
          refine HM1.out.mono ?_
          rintro e w2 ⟨rfl, n1, hw1⟩
          have HY2 : Hid (Below W0.heap.size W0 w2) := by show Below _ _ _; rw [← hw1]; exact Below.drewN HY1.out _
          have HQ1 := Lib.hid hq1
          clear hw1 hq1 HM1
          cases q1 with
          | false =>
            go_wp2_with fail
            refine (HLV.out _ HY2.out).mono ?_
            rintro e wL ⟨rfl, hbL⟩
            go_wp2
            go_ret
            exact ⟨rfl, hbL⟩
          | true =>
            have HR1 := Lib.hid (mapB_ris HQ1.out)
            go_wp2_with fail
            obtain ⟨q2, hq2⟩ : ∃ q, mapB b = q := ⟨_, rfl⟩
            have HM2 := Lib.hid (refMap25_any A2 l2 c2 b W0.heap.size w2 HL2.out (by omega) (HFI.out w2 HY2.out).2.2)
            rw [hq2] at HM2
            refine HM2.out.mono ?_
            rintro e w3 ⟨rfl, n2, hw2⟩
            have HY3 : Hid (Below W0.heap.size W0 w3) := by show Below _ _ _; rw [← hw2]; exact Below.drewN HY2.out _
            have HQ2 := Lib.hid hq2
            clear hw2 hq2 HM2
            cases q2 with
            | false =>
              go_wp2_with fail
              refine (HLV.out _ HY3.out).mono ?_
              rintro e wL ⟨rfl, hbL⟩
              go_wp2
              go_ret
              exact ⟨rfl, hbL⟩
            | true =>
              have HR2 := Lib.hid (mapB_ris HQ2.out)
              have HMG := Lib.hid (merge_any A0 A1 A2 l0 c0 l1 c1 l2 c2 o a b W0.heap.size w3 HL0.out HL1.out HL2.out (by omega) (by omega) (by omega) ⟨hc0, Nat.zero_le _⟩ ⟨hc1, Nat.zero_le _⟩ ⟨hc2, Nat.zero_le _⟩ HR0.out HR1.out HR2.out (HFI.out w3 HY3.out).1 (HFI.out w3 HY3.out).2.1 (HFI.out w3 HY3.out).2.2 (fun f hf => by have := (HS0.out.2 f hf).2; omega) (fun f hf => by have := (HS1.out.2 f hf).2; omega) (fun f hf => by have := (HS2.out.2 f hf).2; omega) HY3.out.size)
              go_wp2_with fail
              refine HMG.out.mono ?_
              rintro e w4 ⟨Am4, cm4, fs4, Ac4, cc4, cs4, rfl, hk, hf, hc, hs, hb⟩
              have HY4 := Lib.hid (HY3.out.trans (hb.mono HY3.out.size))
              have HBB4 := Lib.hid hb
              have HK4 := Lib.hid hk
              have HG4 := Lib.hid hf
              have HC4 := Lib.hid hc
              have HN4 := Lib.hid hs
              clear hk hf hc hs hb HMG
              have HMG := Lib.hid (merge_any A0 A2 A1 l0 c0 l2 c2 l1 c1 o b a W0.heap.size w4 HL0.out HL2.out HL1.out (by omega) (by omega) (by omega) ⟨hc0, Nat.zero_le _⟩ ⟨hc2, Nat.zero_le _⟩ ⟨hc1, Nat.zero_le _⟩ HR0.out HR2.out HR1.out (HFI.out w4 HY4.out).1 (HFI.out w4 HY4.out).2.2 (HFI.out w4 HY4.out).2.1 (fun f hf => by have := (HS0.out.2 f hf).2; omega) (fun f hf => by have := (HS2.out.2 f hf).2; omega) (fun f hf => by have := (HS1.out.2 f hf).2; omega) HY4.out.size)
              go_wp2_with fail
              refine HMG.out.mono ?_
              rintro e w5 ⟨Am5, cm5, fs5, Ac5, cc5, cs5, rfl, hk, hf, hc, hs, hb⟩
              have HY5 := Lib.hid (HY4.out.trans (hb.mono HY4.out.size))
              have HBB5 := Lib.hid hb
              have HK5 := Lib.hid hk
              have HG5 := Lib.hid hf
              have HC5 := Lib.hid hc
              have HN5 := Lib.hid hs
              clear hk hf hc hs hb HMG
              have HMG := Lib.hid (merge_any A0 A1 A0 l0 c0 l1 c1 l0 c0 o a o W0.heap.size w5 HL0.out HL1.out HL0.out (by omega) (by omega) (by omega) ⟨hc0, Nat.zero_le _⟩ ⟨hc1, Nat.zero_le _⟩ ⟨hc0, Nat.zero_le _⟩ HR0.out HR1.out HR0.out (HFI.out w5 HY5.out).1 (HFI.out w5 HY5.out).2.1 (HFI.out w5 HY5.out).1 (fun f hf => by have := (HS0.out.2 f hf).2; omega) (fun f hf => by have := (HS1.out.2 f hf).2; omega) (fun f hf => by have := (HS0.out.2 f hf).2; omega) HY5.out.size)
              go_wp2_with fail
              refine HMG.out.mono ?_
              rintro e w6 ⟨Am6, cm6, fs6, Ac6, cc6, cs6, rfl, hk, hf, hc, hs, hb⟩
              have HY6 := Lib.hid (HY5.out.trans (hb.mono HY5.out.size))
              have HBB6 := Lib.hid hb
              have HK6 := Lib.hid hk
              have HG6 := Lib.hid hf
              have HC6 := Lib.hid hc
              have HN6 := Lib.hid hs
              clear hk hf hc hs hb HMG
              have HMG := Lib.hid (merge_any A0 A1 A1 l0 c0 l1 c1 l1 c1 o a a W0.heap.size w6 HL0.out HL1.out HL1.out (by omega) (by omega) (by omega) ⟨hc0, Nat.zero_le _⟩ ⟨hc1, Nat.zero_le _⟩ ⟨hc1, Nat.zero_le _⟩ HR0.out HR1.out HR1.out (HFI.out w6 HY6.out).1 (HFI.out w6 HY6.out).2.1 (HFI.out w6 HY6.out).2.1 (fun f hf => by have := (HS0.out.2 f hf).2; omega) (fun f hf => by have := (HS1.out.2 f hf).2; omega) (fun f hf => by have := (HS1.out.2 f hf).2; omega) HY6.out.size)
              go_wp2_with fail
              refine HMG.out.mono ?_
              rintro e w7 ⟨Am7, cm7, fs7, Ac7, cc7, cs7, rfl, hk, hf, hc, hs, hb⟩
              have HY7 := Lib.hid (HY6.out.trans (hb.mono HY6.out.size))
              have HBB7 := Lib.hid hb
              have HK7 := Lib.hid hk
              have HG7 := Lib.hid hf
              have HC7 := Lib.hid hc
              have HN7 := Lib.hid hs
              clear hk hf hc hs hb HMG
              have HB47 := Lib.hid ((HBB5.out.trans (HBB6.out.mono HBB5.out.size)).trans (HBB7.out.mono (HBB5.out.trans (HBB6.out.mono HBB5.out.size)).size))
              have HB57 := Lib.hid (HBB6.out.trans (HBB7.out.mono HBB6.out.size))
              obtain ⟨hb6, hb6c⟩ := merge_base (o := o.map Fi.key) (ris_key.1 HR1.out)
              obtain ⟨hb7, hb7c⟩ := merge_self (o := o.map Fi.key) (ris_key.1 HR1.out)
              have HK6' := Lib.hid (HK6.out.trans hb6)
              have HK7' := Lib.hid (HK7.out.trans hb7)
              have hc6 : cs6 = [] := HC6.out.trans hb6c
              have hc7 : cs7 = [] := HC7.out.trans hb7c
              subst hc6 hc7
              have HKS := Lib.hid (HK4.out.trans ((merge_sym _ _ _).trans HK5.out.symm))
              have HCS := Lib.hid (HC4.out.trans ((clashL_sym _ _ _).trans HC5.out.symm))
              have hlen4 : fs4.length ≤ 1000000 := by
                have h1 := congrArg List.length HK4.out
                rw [List.length_map] at h1
                have h2 := merge_len (o.map Fi.key) (a.map Fi.key) (b.map Fi.key)
                rw [List.length_map, List.length_map, List.length_map] at h2
                have := HL0.out; have := HL1.out; have := HL2.out; omega
              have hlc4 : cs4.length ≤ 1000000 := by
                have h1 := congrArg List.length HC4.out
                have h2 := clash_len (o.map Fi.key) (a.map Fi.key) (b.map Fi.key)
                rw [List.length_map, List.length_map, List.length_map] at h2
                have := HL0.out; have := HL1.out; have := HL2.out; omega
              have hlen6 : fs6.length ≤ 1000000 := by
                have h1 := congrArg List.length HK6'.out
                rw [List.length_map, List.length_map] at h1
                have := HL1.out; omega
              have hlen7 : fs7.length ≤ 1000000 := by
                have h1 := congrArg List.length HK7'.out
                rw [List.length_map, List.length_map] at h1
                have := HL1.out; omega
              clear hb6 hb6c hb7 hb7c
              have HG47 := Lib.hid ((HG4.out.below HB47.out (Nat.le_refl _)).more HB47.out.size)
              have HG57 := Lib.hid ((HG5.out.below HB57.out (Nat.le_refl _)).more HB57.out.size)
              have HG67 := Lib.hid ((HG6.out.below HBB7.out (Nat.le_refl _)).more HBB7.out.size)
              have HN47 := Lib.hid ((HN4.out.below HB47.out (Nat.le_refl _)).more HB47.out.size)
              have HN57 := Lib.hid ((HN5.out.below HB57.out (Nat.le_refl _)).more HB57.out.size)
              have HSM := Lib.hid (refSame25_any Am4 fs4.length cm4 Am5 fs5.length cm5 fs4 fs5 w7.heap.size w7 rfl rfl hlen4 (HG47.out.below (Below.refl w7.heap.size w7) (Nat.le_refl _)) (HG57.out.below (Below.refl w7.heap.size w7) (Nat.le_refl _)))
              rw [eqF_yes HKS.out] at HSM
              go_wp2_with fail
              refine HSM.out.mono ?_
              rintro e w8 ⟨rfl, n8, hw8⟩
              have HR78 : Hid (Below w7.heap.size w7 w8) := by show Below _ _ _; rw [← hw8]; exact Below.drewN (Below.refl w7.heap.size w7) _
              clear hw8 HSM
              have HY8 := Lib.hid (HY7.out.trans (HR78.out.mono HY7.out.size))
              have HSM := Lib.hid (refSame15_any Ac4 cs4.length cc4 Ac5 cs5.length cc5 cs4 cs5 w7.heap.size w8 rfl rfl hlc4 (HN47.out.below HR78.out (Nat.le_refl _)) (HN57.out.below HR78.out (Nat.le_refl _)))
              rw [decide_eq_true HCS.out] at HSM
              go_wp2_with fail
              refine HSM.out.mono ?_
              rintro e w9 ⟨rfl, n9, hw9⟩
              have HR79 : Hid (Below w7.heap.size w7 w9) := by show Below _ _ _; rw [← hw9]; exact Below.drewN HR78.out _
              clear hw9 HSM
              have HY9 := Lib.hid (HY7.out.trans (HR79.out.mono HY7.out.size))
              have HSM := Lib.hid (refSame25_any Am6 fs6.length cm6 A1 l1 c1 fs6 a w7.heap.size w9 rfl HL1.out hlen6 (HG67.out.below HR79.out (Nat.le_refl _)) (((HFI.out w9 HY9.out).2.1).more HY7.out.size))
              rw [eqF_yes HK6'.out] at HSM
              go_wp2_with fail
              refine HSM.out.mono ?_
              rintro e w10 ⟨rfl, n10, hw10⟩
              have HR710 : Hid (Below w7.heap.size w7 w10) := by show Below _ _ _; rw [← hw10]; exact Below.drewN HR79.out _
              clear hw10 HSM
              have HY10 := Lib.hid (HY7.out.trans (HR710.out.mono HY7.out.size))
              have HSM := Lib.hid (refSame25_any Am7 fs7.length cm7 A1 l1 c1 fs7 a w7.heap.size w10 rfl HL1.out hlen7 (HG7.out.below HR710.out (Nat.le_refl _)) (((HFI.out w10 HY10.out).2.1).more HY7.out.size))
              rw [eqF_yes HK7'.out] at HSM
              go_wp2_with fail
              refine HSM.out.mono ?_
              rintro e w11 ⟨rfl, n11, hw11⟩
              have HR711 : Hid (Below w7.heap.size w7 w11) := by show Below _ _ _; rw [← hw11]; exact Below.drewN HR710.out _
              clear hw11 HSM
              have HY11 := Lib.hid (HY7.out.trans (HR711.out.mono HY7.out.size))
              by_cases hcl : 0 < cs4.length
              · have tc : decide (0 < cs4.length) = true := decide_eq_true hcl
                go_wp2_with fail
                refine (HLV.out _ HY11.out).mono ?_
                rintro e wL ⟨rfl, hbL⟩
                go_wp2
                go_ret
                exact ⟨rfl, hbL⟩
              · have hcn : cs4 = [] := List.eq_nil_of_length_eq_zero (by omega)
                have HCN := Lib.hid (HC4.out.symm.trans hcn)
                subst hcn
                clear hcl
                obtain ⟨ho, ha, _⟩ := HFI.out w11 HY11.out
                have HDF := Lib.hid (diff_any A0 A1 l0 c0 l1 c1 o a W0.heap.size w11 HL0.out HL1.out (by omega) (by omega) ⟨hc0, Nat.zero_le _⟩ ⟨hc1, Nat.zero_le _⟩ HR0.out HR1.out ho ha (fun f hf => by have := (HS1.out.2 f hf).2; omega) HY11.out.size)
                clear ho ha
                go_wp2_with fail
                refine HDF.out.mono ?_
                rintro e v1 ⟨Ad, cd, os, rfl, hpo, hops, hb1⟩
                have HPO := Lib.hid hpo
                have HOP := Lib.hid hops
                have HZ1 := Lib.hid (HY11.out.trans (hb1.mono HY11.out.size))
                have H71 := Lib.hid (HR711.out.trans (hb1.mono HR711.out.size))
                have hol : os.length ≤ 500 := by
                  have h1 := congrArg List.length hpo
                  rw [List.length_map] at h1
                  have h2 := diffL_len (o.map Fi.key) (a.map Fi.key)
                  rw [List.length_map, List.length_map] at h2
                  have := HL0.out; have := HL1.out; omega
                clear hpo hops hb1 HDF
                have HAP := Lib.hid (applyAll_any A2 Ad l2 c2 os.length cd b (os.map OL.xo) v1.heap.size v1 HL2.out (by rw [List.length_map]) (by omega) hol HR2.out ((HFI.out v1 HZ1.out).2.2.more HZ1.out.size) (by rw [xo_of_ol]; exact HOP.out.row) (fun f hf => ⟨((HF2.out.each f hf).1.below HZ1.out (Nat.le_refl _)).more HZ1.out.size, (HS2.out.2 f hf).2, (HS2.out.2 f hf).1⟩) (xo_ok HOP.out HPO.out HS0.out.2 HS1.out.2) (xo_well os) (Nat.le_refl _))
                obtain ⟨E, hE⟩ : ∃ E, (applyAll b (os.map OL.xo)).1 = E := ⟨_, rfl⟩
                rw [hE] at HAP
                have HE := Lib.hid hE
                clear hE
                go_wp2_with fail
                refine HAP.out.mono ?_
                rintro e v2 ⟨Az, cz, zs, rfl, hkz, hfz, hcz, hb2⟩
                have HKZ := Lib.hid hkz
                have HFZ := Lib.hid hfz
                have HZ2 := Lib.hid (HZ1.out.trans (hb2.mono HZ1.out.size))
                have H72 := Lib.hid (H71.out.trans (hb2.mono H71.out.size))
                clear hkz hfz hcz hb2 HAP
                by_cases hE0 : E = 0
                · subst hE0
                  have HKM : Hid (zs.map Fi.key = fs4.map Fi.key) := HKZ.out.trans ((merge_lead HR0.out HR1.out HR2.out HCN.out ((xo_po os).trans HPO.out) HE.out).trans HK4.out.symm)
                  have hzl : zs.length ≤ 1000000 := by
                    have h1 := congrArg List.length HKM.out
                    rw [List.length_map, List.length_map] at h1
                    omega
                  have HSM := Lib.hid (refSame25_any Az zs.length cz Am4 fs4.length cm4 zs fs4 v2.heap.size v2 rfl rfl hzl HFZ.out ((HG47.out.below H72.out (Nat.le_refl _)).more H72.out.size))
                  rw [eqF_yes HKM.out] at HSM
                  go_wp2_with fail
                  refine HSM.out.mono ?_
                  rintro e v3 ⟨rfl, n3, hw3⟩
                  have HZ3 : Hid (Below W0.heap.size W0 v3) := by show Below _ _ _; rw [← hw3]; exact Below.drewN HZ2.out _
                  clear hw3 HSM
                  go_wp2_with fail
                  refine (HLV.out _ HZ3.out).mono ?_
                  rintro e wL ⟨rfl, hbL⟩
                  go_wp2
                  go_ret
                  exact ⟨rfl, hbL⟩
                · have tE : (E == 0) = false := by simpa using hE0
                  go_wp2_with fail
                  refine (HLV.out _ HZ2.out).mono ?_
                  rintro e wL ⟨rfl, hbL⟩
                  go_wp2
                  go_ret
                  exact ⟨rfl, hbL⟩
end Go.Proofs.YtfnkbpcimbldbaaDoor
