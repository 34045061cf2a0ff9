/- Layer 38, plainly: what steps do; differences lead from map to map; what is put together. -/
import Derived.Test.YtfnkbpcimbldbaaDoorMgQ32440
namespace Go.Proofs.YtfnkbpcimbldbaaDoor
open Go.RowKit

theorem nodup_ris {l : List ByteArray} (h : Ris id l) : l.Nodup := h.imp fun {_ _} hab => ltN_ne hab
theorem ris_nms {k : KL} (h : Ris Prod.fst k) : Ris id (k.map Prod.fst) := ris_map (fun _ => rfl) h
theorem get_applyM {l : List Fi} (h : Ris Fi.nm l) {o : XO} (e : applyE l o = 0) (s : ByteArray) : getK ((applyM l o).map Fi.key) s = if s = o.nm then (if o.kd = 3 then some o.data else none) else getK (l.map Fi.key) s := by
  unfold applyM
  rw [if_pos e]
  unfold applyF
  by_cases h3 : o.kd = 3
  · rw [if_pos h3, if_pos h3, with_key, get_with (ris_key.1 h)]
    rfl
  · rw [if_neg h3, if_neg h3, out_key, get_out (ris_key.1 h)]
theorem applyAll_get : ∀ (os : List XO) {l : List Fi}, Ris Fi.nm l → (applyAll l os).1 = 0 → (os.map XO.nm).Nodup → ∀ s, getK ((applyAll l os).2.map Fi.key) s = match os.find? (fun o => decide (o.nm = s)) with
    | none => getK (l.map Fi.key) s
    | some o => if o.kd = 3 then some o.data else none
  | [], _, _, _, _, _ => rfl
  | o :: os, l, h, he, hd, s => by
    have he : (if applyE l o = 0 then applyAll (applyM l o) os else (applyE l o, [])).1 = 0 := he
    show getK ((if applyE l o = 0 then applyAll (applyM l o) os else (applyE l o, [])).2.map Fi.key) s = _
    have e : applyE l o = 0 := by
      by_cases e : applyE l o = 0
      · exact e
      · rw [if_neg e] at he; exact he
    rw [if_pos e] at he ⊢
    rw [List.map_cons, List.nodup_cons] at hd
    have ih := applyAll_get os (applyM_ris h o) he hd.2 s
    rw [ih, get_applyM h e, List.find?_cons]
    by_cases hs : s = o.nm
    · have hn : os.find? (fun o => decide (o.nm = s)) = none := by
        rw [List.find?_eq_none]
        intro x hx hxs
        exact hd.1 (List.mem_map.2 ⟨x, hx, by rw [← hs]; exact of_decide_eq_true hxs⟩)
      rw [hn, decide_eq_true hs.symm]
      simp only [if_pos hs]
    · rw [decide_eq_false (fun e => hs e.symm)]
      simp only [if_neg hs]
theorem mem_diffL {ka kb : KL} (hb : Ris Prod.fst kb) {p : PO} (h : p ∈ diffL ka kb) : getK ka p.2.1 ≠ getK kb p.2.1 ∧ ((p.1 = 3 ∧ getK kb p.2.1 = some p.2.2) ∨ (p.1 = 11 ∧ getK kb p.2.1 = none)) := by
  unfold diffL goneN putN at h
  rcases List.mem_append.1 h with h | h
  · obtain ⟨n, hn, rfl⟩ := List.mem_map.1 h
    obtain ⟨h1, h2⟩ := List.mem_filter.1 hn
    rw [Option.isNone_iff_eq_none] at h2
    refine ⟨fun e => ?_, .inr ⟨rfl, h2⟩⟩
    have e : getK ka n = getK kb n := e
    rw [h2] at e
    exact get_none.1 e h1
  · obtain ⟨x, hx, rfl⟩ := List.mem_map.1 h
    obtain ⟨h1, h2⟩ := List.mem_filter.1 hx
    have h3 : getK kb x.1 = some x.2 := (get_iff hb).2 h1
    refine ⟨fun e => ?_, .inl ⟨rfl, h3⟩⟩
    have e : getK ka x.1 = getK kb x.1 := e
    rw [h3] at e
    rw [decide_eq_true e] at h2
    cases h2
theorem diffL_has {ka kb : KL} (hb : Ris Prod.fst kb) {s : ByteArray} (h : getK ka s ≠ getK kb s) : ∃ p ∈ diffL ka kb, p.2.1 = s := by
  unfold diffL goneN putN
  cases e : getK kb s with
  | none =>
    refine ⟨(11, s, []), List.mem_append.2 (.inl (List.mem_map.2 ⟨s, List.mem_filter.2 ⟨?_, by rw [e]; rfl⟩, rfl⟩)), rfl⟩
    rw [e] at h
    by_cases hm : s ∈ ka.map Prod.fst
    · exact hm
    · exact absurd (get_none.2 hm) h
  | some d =>
    refine ⟨(3, s, d), List.mem_append.2 (.inr (List.mem_map.2 ⟨(s, d), List.mem_filter.2 ⟨(get_iff hb).1 e, ?_⟩, rfl⟩)), rfl⟩
    rw [e] at h
    rw [decide_eq_false h]
    rfl
theorem diffL_nodup {ka kb : KL} (ha : Ris Prod.fst ka) (hb : Ris Prod.fst kb) : ((diffL ka kb).map fun p => p.2.1).Nodup := by
  unfold diffL
  rw [List.map_append, List.map_map, List.map_map]
  have e1 : (goneN ka kb).map ((fun p : PO => p.2.1) ∘ fun n => (11, n, [])) = goneN ka kb := by
    conv => rhs; rw [← List.map_id (goneN ka kb)]
    rfl
  have e2 : (putN ka kb).map ((fun p : PO => p.2.1) ∘ fun x => (3, x.1, x.2)) = (putN ka kb).map Prod.fst := rfl
  rw [e1, e2, List.nodup_append]
  refine ⟨nodup_ris ((ris_nms ha).filter _), nodup_ris (ris_nms (hb.filter _)), fun x hx y hy e => ?_⟩
  subst e
  unfold goneN at hx
  have h1 := (List.mem_filter.1 hx).2
  rw [Option.isNone_iff_eq_none] at h1
  unfold putN at hy
  obtain ⟨z, hz, rfl⟩ := List.mem_map.1 hy
  have h2 := (get_iff hb).2 (List.mem_filter.1 hz).1
  rw [h1] at h2
  cases h2
theorem po_names (os : List XO) : os.map XO.nm = (os.map XO.po).map fun p => p.2.1 := by rw [List.map_map]; rfl
/-- What a difference's steps lead to. -/
theorem diff_get {ka kb : KL} (ha : Ris Prod.fst ka) (hb : Ris Prod.fst kb) {os : List XO} (ho : os.map XO.po = diffL ka kb) {l : List Fi} (h : Ris Fi.nm l) (he : (applyAll l os).1 = 0) (s : ByteArray) :
    getK ((applyAll l os).2.map Fi.key) s = if getK ka s = getK kb s then getK (l.map Fi.key) s else getK kb s := by
  have hd : (os.map XO.nm).Nodup := by rw [po_names, ho]; exact diffL_nodup ha hb
  rw [applyAll_get os h he hd s]
  cases hf : os.find? (fun o => decide (o.nm = s)) with
  | none =>
    rw [List.find?_eq_none] at hf
    by_cases e : getK ka s = getK kb s
    · rw [if_pos e]
    · obtain ⟨p, hp, hps⟩ := diffL_has hb e
      rw [← ho] at hp
      obtain ⟨o, hom, rfl⟩ := List.mem_map.1 hp
      exact absurd (decide_eq_true hps) (hf o hom)
  | some o =>
    have h1 := List.mem_of_find?_eq_some hf
    have h2 : o.nm = s := by have := List.find?_some hf; exact of_decide_eq_true this
    obtain ⟨h3, h4⟩ := mem_diffL hb (p := o.po) (by rw [← ho]; exact List.mem_map.2 ⟨o, h1, rfl⟩)
    have h3 : getK ka o.nm ≠ getK kb o.nm := h3
    rw [h2] at h3
    rw [if_neg h3]
    rcases h4 with ⟨k3, hv⟩ | ⟨k11, hv⟩
    · have k3 : o.kd = 3 := k3
      have hv : getK kb o.nm = some o.data := hv
      rw [h2] at hv
      simp only [if_pos k3]
      exact hv.symm
    · have k11 : o.kd = 11 := k11
      have hv : getK kb o.nm = none := hv
      rw [h2] at hv
      simp only [k11]
      rw [hv, if_neg (by decide)]
theorem applyAll_app : ∀ (os ps : List XO) (l : List Fi), (applyAll l os).1 = 0 → applyAll l (os ++ ps) = applyAll (applyAll l os).2 ps
  | [], _, _, _ => rfl
  | o :: os, ps, l, h => by
    have h : (if applyE l o = 0 then applyAll (applyM l o) os else (applyE l o, [])).1 = 0 := h
    show (if applyE l o = 0 then applyAll (applyM l o) (os ++ ps) else (applyE l o, [])) = applyAll (if applyE l o = 0 then applyAll (applyM l o) os else (applyE l o, [])).2 ps
    have e : applyE l o = 0 := by
      by_cases e : applyE l o = 0
      · exact e
      · rw [if_neg e] at h; exact h
    rw [if_pos e] at h ⊢
    rw [if_pos e]
    exact applyAll_app os ps _ h
theorem gones_ok : ∀ (gs : List XO) {l : List Fi}, Ris Fi.nm l → (∀ o ∈ gs, o.kd = 11 ∧ hasK Fi.nm l o.nm = true) → (gs.map XO.nm).Nodup → (applyAll l gs).1 = 0
  | [], _, _, _, _ => rfl
  | o :: gs, l, h, hg, hd => by
    obtain ⟨k11, hh⟩ := hg o (List.mem_cons_self ..)
    rw [List.map_cons, List.nodup_cons] at hd
    have k3 : ¬ o.kd = 3 := by rw [k11]; decide
    have e : applyE l o = 0 := by unfold applyE; rw [if_neg k3, if_pos k11, if_pos hh]
    have em : applyM l o = outK Fi.nm l o.nm := by unfold applyM applyF; rw [if_pos e, if_neg k3]
    show (if applyE l o = 0 then applyAll (applyM l o) gs else (applyE l o, [])).1 = 0
    rw [if_pos e]
    refine gones_ok gs (applyM_ris h o) (fun p hp => ?_) hd.2
    obtain ⟨p11, ph⟩ := hg p (List.mem_cons_of_mem _ hp)
    refine ⟨p11, ?_⟩
    rw [hasK_iff] at ph ⊢
    obtain ⟨x, hx, hxn⟩ := ph
    rw [em]
    exact ⟨x, mem_out.2 ⟨hx, fun e => hd.1 (List.mem_map.2 ⟨p, hp, by rw [← hxn, e]⟩)⟩, hxn⟩
theorem less_of {l b : List Fi} (hl : Ris Fi.nm l) (hb : Ris Fi.nm b) (hs : ∀ x ∈ l, x.nm ∈ b.map Fi.nm) {n : ByteArray} (hn : n ∈ b.map Fi.nm) (hh : hasK Fi.nm l n = false) : l.length < b.length := by
  have e : l.map Fi.nm = (b.map Fi.nm).filter fun s => hasK Fi.nm l s := by
    refine risK_ext (k := id) (ris_map (fun _ => rfl) hl) ((ris_map (fun _ => rfl) hb : Ris id (b.map Fi.nm)).filter _) (fun s => ?_)
    rw [List.mem_filter, hasK_iff, List.mem_map]
    constructor
    · rintro ⟨x, hx, rfl⟩
      exact ⟨hs x hx, x, hx, rfl⟩
    · rintro ⟨_, x, hx, rfl⟩
      exact ⟨x, hx, rfl⟩
  have h1 : ((b.map Fi.nm).filter fun s => hasK Fi.nm l s).length < (b.map Fi.nm).length := by
    rw [List.length_filter_lt_length_iff_exists]
    exact ⟨n, hn, by rw [hh]; decide⟩
  rw [← e, List.length_map, List.length_map] at h1
  exact h1
theorem puts_ok {b : List Fi} (hb : Ris Fi.nm b) (hbl : b.length ≤ 200) : ∀ (ps : List XO) {l : List Fi}, Ris Fi.nm l → (∀ x ∈ l, x.nm ∈ b.map Fi.nm) → (∀ o ∈ ps, o.kd = 3 ∧ rightB o.nm.data.toList = true ∧ o.data.length ≤ 65536 ∧ o.nm ∈ b.map Fi.nm) → (applyAll l ps).1 = 0
  | [], _, _, _, _ => rfl
  | o :: ps, l, h, hs, hp => by
    obtain ⟨k3, hr, hd, hn⟩ := hp o (List.mem_cons_self ..)
    have e : applyE l o = 0 := by
      unfold applyE
      rw [if_pos k3, if_neg (by rw [hr]; decide), if_neg (by omega), if_neg]
      rintro ⟨h1, h2⟩
      have := less_of h hb hs hn h1
      omega
    have em : applyM l o = withK Fi.nm l o.fi := by unfold applyM applyF; rw [if_pos e, if_pos k3]
    show (if applyE l o = 0 then applyAll (applyM l o) ps else (applyE l o, [])).1 = 0
    rw [if_pos e]
    refine puts_ok hb hbl ps (applyM_ris h o) (fun x hx => ?_) (fun p hp' => hp p (List.mem_cons_of_mem _ hp'))
    rw [em] at hx
    rcases mem_with.1 hx with rfl | ⟨hx, _⟩
    · exact hn
    · exact hs x hx
theorem key_names (l : List Fi) : (l.map Fi.key).map Prod.fst = l.map Fi.nm := by rw [List.map_map]; rfl
/-- A difference of maps that may be kept can be done. -/
theorem diff_ok {a b : List Fi} (ha : Ris Fi.nm a) (hb : Ris Fi.nm b) (hbl : b.length ≤ 200) (hbo : ∀ f ∈ b, okF f = true) {os : List XO} (ho : os.map XO.po = diffL (a.map Fi.key) (b.map Fi.key)) : (applyAll a os).1 = 0 := by
  have hkb := ris_key.1 hb
  have hnd : (os.map XO.nm).Nodup := by rw [po_names, ho]; exact diffL_nodup (ris_key.1 ha) hkb
  unfold diffL at ho
  obtain ⟨gs, ps, rfl, hg, hp⟩ := List.map_eq_append_iff.1 ho
  rw [List.map_append, List.nodup_append] at hnd
  have g0 : (applyAll a gs).1 = 0 := gones_ok gs ha (fun o hom => by
    have h1 : o.po ∈ gs.map XO.po := List.mem_map.2 ⟨o, hom, rfl⟩
    rw [hg] at h1
    obtain ⟨n, hn, e⟩ := List.mem_map.1 h1
    unfold goneN at hn
    have hn1 := (List.mem_filter.1 hn).1
    unfold XO.po at e
    simp only [Prod.mk.injEq] at e
    refine ⟨e.1.symm, ?_⟩
    rw [← e.2.1, hasK_iff]
    rw [key_names] at hn1
    obtain ⟨x, hx, hxn⟩ := List.mem_map.1 hn1
    exact ⟨x, hx, hxn⟩) hnd.1
  rw [applyAll_app gs ps a g0]
  refine puts_ok hb hbl ps (applyAll_ris gs ha) (fun x hx => ?_) (fun o hom => ?_)
  · have h1 := applyAll_get gs ha g0 hnd.1 x.nm
    have h2 : getK ((applyAll a gs).2.map Fi.key) x.nm = some x.data := (get_iff (ris_key.1 (applyAll_ris gs ha))).2 (List.mem_map.2 ⟨x, hx, rfl⟩)
    rw [h2] at h1
    cases hf : gs.find? (fun o => decide (o.nm = x.nm)) with
    | some o =>
      rw [hf] at h1
      have h3 := List.mem_of_find?_eq_some hf
      have h4 : o.po ∈ gs.map XO.po := List.mem_map.2 ⟨o, h3, rfl⟩
      rw [hg] at h4
      obtain ⟨n, _, e⟩ := List.mem_map.1 h4
      unfold XO.po at e
      simp only [Prod.mk.injEq] at e
      have h1 : some x.data = if o.kd = 3 then some o.data else none := h1
      rw [← e.1, if_neg (by decide)] at h1
      cases h1
    | none =>
      rw [hf] at h1
      by_cases hm : x.nm ∈ (b.map Fi.key).map Prod.fst
      · rw [← key_names]; exact hm
      · exfalso
        have h3 : x.nm ∈ goneN (a.map Fi.key) (b.map Fi.key) := by
          unfold goneN
          refine List.mem_filter.2 ⟨?_, by rw [get_none.2 hm]; rfl⟩
          by_cases hma : x.nm ∈ (a.map Fi.key).map Prod.fst
          · exact hma
          · have h1 : some x.data = getK (a.map Fi.key) x.nm := h1
            rw [get_none.2 hma] at h1
            cases h1
        have h4 : ((11 : Int), x.nm, ([] : List UInt8)) ∈ gs.map XO.po := by rw [hg]; exact List.mem_map.2 ⟨x.nm, h3, rfl⟩
        obtain ⟨o, hom, e⟩ := List.mem_map.1 h4
        unfold XO.po at e
        simp only [Prod.mk.injEq] at e
        rw [List.find?_eq_none] at hf
        exact hf o hom (decide_eq_true e.2.1)
  · have h1 : o.po ∈ ps.map XO.po := List.mem_map.2 ⟨o, hom, rfl⟩
    rw [hp] at h1
    obtain ⟨x, hx, e⟩ := List.mem_map.1 h1
    unfold putN at hx
    obtain ⟨f, hfm, hfx⟩ := List.mem_map.1 (List.mem_filter.1 hx).1
    subst hfx
    unfold XO.po Fi.key at e
    simp only [Prod.mk.injEq] at e
    have h2 := hbo f hfm
    unfold okF at h2
    rw [Bool.and_eq_true] at h2
    refine ⟨e.1.symm, by rw [← e.2.1]; exact h2.1, by rw [← e.2.2]; exact of_decide_eq_true h2.2, by rw [← e.2.1]; exact List.mem_map.2 ⟨f, hfm, rfl⟩⟩
/-- A difference, applied, is the other map. -/
theorem diff_lead {a b : List Fi} (ha : Ris Fi.nm a) (hb : Ris Fi.nm b) (hbl : b.length ≤ 200) (hbo : ∀ f ∈ b, okF f = true) {os : List XO} (ho : os.map XO.po = diffL (a.map Fi.key) (b.map Fi.key)) : (applyAll a os).1 = 0 ∧ (applyAll a os).2.map Fi.key = b.map Fi.key := by
  have h0 := diff_ok ha hb hbl hbo ho
  refine ⟨h0, get_ext (ris_key.1 (applyAll_ris os ha)) (ris_key.1 hb) (fun s => ?_)⟩
  rw [diff_get (ris_key.1 ha) (ris_key.1 hb) ho ha h0 s]
  split
  · assumption
  · rfl
/-- A map has no difference from itself. -/
theorem diff_self {ka : KL} (ha : Ris Prod.fst ka) : diffL ka ka = [] := by
  cases h : diffL ka ka with
  | nil => rfl
  | cons p t => exact absurd rfl (mem_diffL ha (p := p) (by rw [h]; exact List.mem_cons_self ..)).1
/-- Without any one of its steps a difference leads elsewhere, or nowhere. -/
theorem diff_few {a b : List Fi} (ha : Ris Fi.nm a) (hb : Ris Fi.nm b) {os : List XO} (ho : os.map XO.po = diffL (a.map Fi.key) (b.map Fi.key)) {i : Nat} (hi : i < os.length) (h0 : (applyAll a (os.take i ++ os.drop (i + 1))).1 = 0) : (applyAll a (os.take i ++ os.drop (i + 1))).2.map Fi.key ≠ b.map Fi.key := by
  intro he
  have hnd : (os.map XO.nm).Nodup := by rw [po_names, ho]; exact diffL_nodup (ris_key.1 ha) (ris_key.1 hb)
  have hsp : os = os.take i ++ os[i] :: os.drop (i + 1) := by
    rw [List.getElem_cons_drop, List.take_append_drop]
  rw [hsp, List.map_append, List.map_cons, List.nodup_append, List.nodup_cons] at hnd
  obtain ⟨n1, ⟨n2, n3⟩, n4⟩ := hnd
  have hd2 : ((os.take i ++ os.drop (i + 1)).map XO.nm).Nodup := by
    rw [List.map_append, List.nodup_append]
    exact ⟨n1, n3, fun x hx y hy => n4 x hx y (List.mem_cons_of_mem _ hy)⟩
  have h1 := applyAll_get _ ha h0 hd2 (os[i]).nm
  have hf : (os.take i ++ os.drop (i + 1)).find? (fun o => decide (o.nm = (os[i]).nm)) = none := by
    rw [List.find?_eq_none]
    intro x hx hxs
    have hxs := of_decide_eq_true hxs
    rcases List.mem_append.1 hx with hx | hx
    · exact n4 x.nm (List.mem_map.2 ⟨x, hx, rfl⟩) _ (List.mem_cons_self ..) hxs
    · exact n2 (List.mem_map.2 ⟨x, hx, hxs⟩)
  rw [hf, he] at h1
  have h2 := (mem_diffL (ris_key.1 hb) (p := (os[i]).po) (by rw [← ho]; exact List.mem_map.2 ⟨_, List.getElem_mem hi, rfl⟩)).1
  exact h2 h1.symm
end Go.Proofs.YtfnkbpcimbldbaaDoor
/- Layer 38: the law PlanJoins. -/
namespace Go.Proofs.YtfnkbpcimbldbaaDoor
open Go.RowKit

def OL.xo (o : OL) : XO := ⟨o.kd, o.nm, o.data, o.ad, o.cp, .int .i64 0, .slice none 0 0, .int .i64 0, .int .u8 0⟩
theorem xo_of_ol (os : List OL) : xoCells (os.map OL.xo) = olCells os := by
  unfold xoCells olCells
  rw [List.map_map]
  rfl
theorem xo_po (os : List OL) : (os.map OL.xo).map XO.po = os.map OL.po := by
  rw [List.map_map]
  rfl
theorem xo_well (os : List OL) : ∀ x ∈ os.map OL.xo, x.well := fun x hx => by
  obtain ⟨o, _, rfl⟩ := List.mem_map.1 hx
  exact ⟨0, none, 0, 0, 0, 0, rfl, rfl, rfl, rfl⟩
theorem diffL_from {ka kb : KL} {p : PO} (h : p ∈ diffL ka kb) : (p.2.1 ∈ ka.map Prod.fst ∧ p.2.2 = []) ∨ p.2 ∈ kb := by
  unfold diffL goneN putN at h
  rcases List.mem_append.1 h with h | h
  · obtain ⟨n, hn, rfl⟩ := List.mem_map.1 h
    exact .inl ⟨(List.mem_filter.1 hn).1, rfl⟩
  · obtain ⟨x, hx, rfl⟩ := List.mem_map.1 h
    exact .inr (List.mem_filter.1 hx).1
theorem xo_ok {w : World} {B : Nat} {A : Option Addr} {os : List OL} {a b : List Fi} (hos : Ops w B A os) (hpo : os.map OL.po = diffL (a.map Fi.key) (b.map Fi.key)) (ha : ∀ f ∈ a, f.nm.size ≤ 300 ∧ f.data.length ≤ 70000) (hb : ∀ f ∈ b, f.nm.size ≤ 300 ∧ f.data.length ≤ 70000) : ∀ x ∈ os.map OL.xo, OkF w B x.fi := fun x hx => by
  obtain ⟨o, ho, rfl⟩ := List.mem_map.1 hx
  have h1 : o.po ∈ diffL (a.map Fi.key) (b.map Fi.key) := by rw [← hpo]; exact List.mem_map.2 ⟨o, ho, rfl⟩
  refine ⟨(hos.each o ho).1, ?_⟩
  rcases diffL_from h1 with ⟨h2, h3⟩ | h2
  · rw [key_names] at h2
    obtain ⟨f, hf, hfn⟩ := List.mem_map.1 h2
    have h3 : o.data = [] := h3
    have hfn : f.nm = o.nm := hfn
    exact ⟨by show o.data.length ≤ _; rw [h3]; exact Nat.zero_le _, by show o.nm.size ≤ _; rw [← hfn]; exact (ha f hf).1⟩
  · obtain ⟨f, hf, hfk⟩ := List.mem_map.1 h2
    unfold Fi.key OL.po at hfk
    simp only [Prod.mk.injEq] at hfk
    exact ⟨by show o.data.length ≤ _; rw [← hfk.2]; exact (hb f hf).2, by show o.nm.size ≤ _; rw [← hfk.1]; exact (hb f hf).1⟩
end Go.Proofs.YtfnkbpcimbldbaaDoor
