/- Layer 25: files cloned: slices.Clone, model.clone. -/
import Derived.Test.YtaneifmbjkolaaaDoorFiG
namespace Go.Proofs.YtaneifmbjkolaaaDoor
open Go.RowKit

theorem ownF_low {w : World} {b b' : Nat} {e : TypeId} {k n : Nat} {v : Value} {xs : List Value} (h : w.ownsRow b e k v n xs) (hb : b' ≤ b) : w.ownsRow b' e k v n xs := ⟨h.1, by
  rcases h.2 with h | ⟨g, cap, cur, h1, h2, h3⟩
  · exact .inl h
  · exact .inr ⟨g, cap, cur, h1, Nat.le_trans hb h2, h3⟩⟩
theorem cells_of_ownF {w : World} {base : Nat} {e : TypeId} {size : Nat} {A : Option Addr} {n c : Nat} {xs : List Value} (h : w.ownsRow base e size (.slice A n c) n xs) : Cells w w.heap.size A xs := fun hp => by
  obtain ⟨hlen, hor⟩ := h
  rcases hor with ⟨h1, h2⟩ | ⟨g, cap, cur, hv, _, hg, _, _, hcells⟩
  · subst h2; rw [Nat.zero_mul] at hlen; omega
  · injection hv with ha _ _
    refine ⟨g, 0, ha, (Array.getElem?_eq_some_iff.1 hg).1, fun j u hj => ?_⟩
    rw [Nat.zero_add, cell_of_row w g j _ _ _ hg]
    obtain ⟨_, ht⟩ := hcells
    rw [← ht, List.getElem?_take] at hj
    split at hj
    · rw [← Array.getElem?_toList]; exact hj
    · cases hj
theorem own_setF {w : World} {base g k n c j : Nat} {e : TypeId} {xs : List Value} {u : Value} (h : w.ownsRow base e k (.slice (some ⟨g, 0, none⟩) n c) n xs) : (w.setCell ⟨g, j, none⟩ u).ownsRow base e k (.slice (some ⟨g, 0, none⟩) n c) n (xs.set j u) := by
  rcases h.2 with ⟨h2, _⟩ | ⟨g', cap, cur, hv, hg, hh, hnc, hcm, hcs, htake⟩
  · cases h2
  · simp only [Value.slice.injEq, Option.some.injEq, Addr.mk.injEq] at hv
    obtain ⟨⟨rfl, _, _⟩, _, rfl⟩ := hv
    refine ⟨by rw [List.length_set]; exact h.1, .inr ⟨g, c, cur.setIfInBounds j u, rfl, hg, heap_setCell_same w g j _ _ _ hh, hnc, hcm, by simp [hcs], ?_⟩⟩
    rw [Array.toList_setIfInBounds, List.take_set, htake]
theorem own_freeF {w : World} {base g k n c : Nat} {e : TypeId} {xs : List Value} (h : w.ownsRow base e k (.slice (some ⟨g, 0, none⟩) n c) n xs) (j : Nat) : w.frozen? ⟨g, j, none⟩ = false := by
  rcases h.2 with ⟨h2, _⟩ | ⟨g', cap, cur, hv, hg, hh, _⟩
  · cases h2
  · simp only [Value.slice.injEq, Option.some.injEq, Addr.mk.injEq] at hv
    obtain ⟨⟨rfl, _, _⟩, _, rfl⟩ := hv
    simp [World.frozen?, hh]
theorem fiCells_one (fs : List Fi) : ∀ u ∈ fiCells fs, u.oneCell' = true := fun u hu => by
  unfold fiCells at hu
  rw [List.mem_flatten] at hu
  obtain ⟨l, hl, hul⟩ := hu
  obtain ⟨f, _, rfl⟩ := List.mem_map.1 hl
  unfold Fi.cells at hul
  simp only [List.mem_cons, List.not_mem_nil, or_false] at hul
  rcases hul with rfl | rfl <;> rfl
theorem fiCells_app (l m : List Fi) : fiCells (l ++ m) = fiCells l ++ fiCells m := by unfold fiCells; simp
theorem fiCells_set (gs rest : List Fi) (x g : Fi) (h : g.nm = x.nm) : (fiCells (gs ++ x :: rest)).set (gs.length * 2 + 1) (.slice g.ad g.data.length g.cp) = fiCells (gs ++ g :: rest) := by
  rw [fiCells_app, fiCells_app, List.set_append_right _ _ (by rw [fi_len]; omega), fi_len]
  congr 1
  rw [show gs.length * 2 + 1 - gs.length * 2 = 1 by omega]
  show (List.flatten (List.map Fi.cells (x :: rest))).set 1 _ = List.flatten (List.map Fi.cells (g :: rest))
  rw [List.map_cons, List.map_cons, List.flatten_cons, List.flatten_cons]
  unfold Fi.cells
  rw [h]
  rfl
set_option maxRecDepth 100000 in
set_option maxHeartbeats 1000000 in
theorem sclone_any (A : Option Addr) (l c : Nat) (fs : List Fi) (B : Nat) (w : World) (hl : fs.length = l) (hm : l ≤ 1000000) (hb : Cells w B A (fiCells fs)) (hB : B ≤ w.heap.size) :
    Calls Tryd.prog 36 #[.slice A l c] w fun e w' => ∃ A' c', e = .returned (.slice A' l c') ∧ w'.ownsRow w.heap.size 25 2 (.slice A' l c') l (fiCells fs) ∧ Below w.heap.size w w' := by
  cases A with
  | none =>
    have h0 : fs = [] := by
      cases fs with
      | nil => rfl
      | cons x t => obtain ⟨b, o, e, _⟩ := hb (by rw [fi_len, List.length_cons]; omega); cases e
    subst h0
    obtain rfl : l = 0 := hl.symm
    have hq : ∀ V, (binOp .eql 22 (.slice none 0 c) (.slice none 0 0)).run Tryd.prog V = .ok (.bool true) V := fun V => sliceNil_run V _ _ _ _ _ Tryd.underlying22
    clear hb hl
    go_enter Tryd.func36, Tryd.ntmps36
    go_wp2
    go_ret
    exact ⟨none, 0, rfl, World.ownsRow_nil _ _ _ _, Below.refl _ _⟩
  | some a =>
    obtain ⟨w1, hw1⟩ : ∃ w1, w.alloc (.cells #[] 25) = w1 := ⟨_, rfl⟩
    have HB1 : Hid (Below w.heap.size w w1) := by show Below _ _ _; rw [← hw1]; exact (Below.refl _ w).alloc (Nat.le_refl _) _
    have HO1 : Hid (w1.ownsRow w.heap.size 25 2 (.slice (some ⟨w.heap.size, 0, none⟩) 0 0) 0 []) := ⟨rfl, .inr ⟨w.heap.size, 0, #[], rfl, Nat.le_refl _, by rw [← hw1]; exact heap_alloc_new w _, Nat.le_refl _, by unfold maxLen; omega, rfl, rfl⟩⟩
    have HC1 := Lib.hid ((hb.more hB).below HB1.out (Nat.le_refl _))
    have HL : Hid ((fiCells fs).length = l * 2) := by show _ = _; rw [fi_len, hl]
    have hz := HB1.out.size
    have hq : ∀ V, (binOp .eql 22 (.slice (some a) l c) (.slice none 0 0)).run Tryd.prog V = .ok (.bool false) V := fun V => sliceNil_run V _ _ _ _ _ Tryd.underlying22
    clear hb hB hl
    go_enter Tryd.func36, Tryd.ntmps36
    go_wp2_with (at_builtin; go_must (skip; refine wpList_app w1 fileElem rfl (.tmp 5) (.tmp 6) rfl w.heap.size (.slice (some ⟨w.heap.size, 0, none⟩) 0 0) 0 [] rfl HO1.out w.heap.size (some a) l c (fiCells fs) rfl HL.out HC1.out (fiCells_one fs) (by unfold maxLen; omega) (by omega) hz ?_; intro A3 c3 w3 hA; have HA := Lib.hid hA; clear hA))
    go_ret
    have ho := HA.out.own
    rw [Nat.zero_add, List.nil_append] at ho
    exact ⟨A3, c3, by simp, ho, HA.out.below HB1.out HB1.out.size (fun q hq => (HO1.out.lt q hq).1)⟩
/-- Files whose bytes are the call's own, behind their row. -/
def OwnFs (w : World) (A : Option Addr) (gs : List Fi) : Prop := ∀ g ∈ gs, ∀ b, A = some ⟨b, 0, none⟩ → w.ownsRow (b + 1) 5 1 (.slice g.ad g.data.length g.cp) g.data.length (byteCells g.data)
set_option maxRecDepth 100000 in
set_option maxHeartbeats 2000000 in
theorem clone25_any (A : Option Addr) (l c : Nat) (fs : List Fi) (B : Nat) (w : World) (hl : fs.length = l) (hm : l ≤ 1000000) (hb : Files w B A fs) (hB : B ≤ w.heap.size) (hd : ∀ f ∈ fs, f.data.length ≤ 1000000) :
    Calls Tryd.prog 27 #[.slice A l c] w fun e w' => ∃ A' c' gs, e = .returned (.slice A' l c') ∧ gs.map Fi.key = fs.map Fi.key ∧ gs.length = l ∧ Files w' w'.heap.size A' gs ∧ Below w.heap.size w w' := by
  have HS := Lib.hid (sclone_any A l c fs B w hl hm hb.row hB)
  have HE := Lib.hid hb.each
  have HL := Lib.hid hl
  have HD := Lib.hid hd
  have HB := Lib.hid hB
  clear hb hl hd hB
  go_enter Tryd.func27, Tryd.ntmps27
  go_wp2_with (go_at_call 36; refine HS.out.mono ?_; rintro e1 w1 ⟨A1, c1, rfl, ho1, hb1⟩; have HO1 := Lib.hid ho1; have HB1 := Lib.hid hb1; clear ho1 hb1)
  go_loopg [3, 8] l (fun gk _ i wr => ∃ (k : Nat) (gs : List Fi), k + gk = l ∧ i = .int .i64 k ∧ gs.length = k ∧ gs.map Fi.key = (fs.take k).map Fi.key ∧ wr.ownsRow w.heap.size 25 2 (.slice A1 l c1) l (fiCells (gs ++ fs.drop k)) ∧ OwnFs wr A1 gs ∧ (∀ g ∈ gs, g.data.length ≤ g.cp) ∧ Below w.heap.size w wr)
  case atStart => exact ⟨0, [], by omega, rfl, rfl, rfl, by rw [List.nil_append, List.drop_zero]; exact HO1.out, (by intro g hg; cases hg), (by intro g hg; cases hg), HB1.out⟩
  case round =>
    obtain ⟨k, gs, hk, rfl, hgl, hkey, hown, hof, hcp, hbel⟩ := hrel
    have HK := Lib.hid hkey
    have HGL := Lib.hid hgl
    have HOWN := Lib.hid hown
    have HOF := Lib.hid hof
    have HCP := Lib.hid hcp
    have HBL := Lib.hid hbel
    clear hkey hown hof hcp hbel hgl
    by_cases h : k < l
    · obtain ⟨g, rfl⟩ : ∃ g, A1 = some ⟨g, 0, none⟩ := by
        rcases ownK_form HOWN.out with ⟨_, h0⟩ | ⟨g, c', hv⟩
        · omega
        · simp only [Value.slice.injEq] at hv
          exact ⟨g, hv.1⟩
      obtain ⟨x, hx⟩ : ∃ x, fs[k]? = some x := ⟨_, List.getElem?_eq_getElem (by have := HL.out; omega)⟩
      have hdk : fs.drop k = x :: fs.drop (k + 1) := by
        obtain ⟨h1, h2⟩ := List.getElem?_eq_some_iff.1 hx
        rw [← h2]
        exact List.drop_eq_getElem_cons h1
      have hox := HOWN.out
      rw [hdk] at hox
      have HOX := Lib.hid hox
      have hcx : wr.cell? ⟨g, k * 2 + 1, none⟩ = some (.slice x.ad x.data.length x.cp) := by
        rw [hox.cellAt (k * 2 + 1) (by omega)]
        rw [fiCells_app, List.getElem?_append_right (by rw [fi_len, HGL.out]; omega), fi_len, HGL.out, show k * 2 + 1 - k * 2 = 1 by omega]
        rfl
      have hfz := own_freeF hox (k * 2 + 1)
      have hgB := (hox.lt g rfl).2
      have hgb := (hox.lt g rfl).1
      have HMX := Lib.hid (HE.out x (List.mem_of_getElem? hx))
      have HCL := Lib.hid (cloneB_any x.ad x.data.length x.cp x.data wr.heap.size wr rfl (HD.out x (List.mem_of_getElem? hx)) ((HMX.out.1.more HB.out).below HBL.out (Nat.le_refl _) |>.more HBL.out.size))
      have HTK := Lib.hid (takeF_snoc hx)
      have hw1 : IntKind.i64.wrap ((k : Int) + 1) = (k : Int) + 1 := IntWalk.i64_in _ (by omega)
      clear hox hx hdk
      go_wp2_with (go_at_call 26; refine HCL.out.mono ?_; rintro e2 w2 ⟨A2, c2, rfl, ho2, hb2⟩; have HO2 := Lib.hid ho2; have HB2 := Lib.hid hb2; have hcy := (hb2.cell (p := ⟨g, k * 2 + 1, none⟩) hgB).trans hcx; have hfy : w2.frozen? ⟨g, k * 2 + 1, none⟩ = false := own_freeF (own_keep HOX.out (Mod.of_below hb2) (fun _ _ h => h)) _; clear ho2 hb2)
      have HM2 : Hid (Mod (oneB g) w2 (w2.setCell ⟨g, k * 2 + 1, none⟩ (.slice A2 x.data.length c2))) := (Mod.refl (oneB g) w2).set _ _ (.inl rfl)
      go_roundg (gk - 1)
      case measure => omega
      case rel =>
        have hM := HM2.out
        refine ⟨k + 1, gs ++ [⟨x.nm, x.data, A2, c2⟩], by omega, by go_num, by rw [List.length_append, HGL.out]; rfl, ?_, ?_, ?_, ?_, ?_⟩
        · rw [HTK.out, List.map_append, List.map_append, HK.out]; rfl
        · have h1 := own_setF (j := k * 2 + 1) (u := .slice A2 x.data.length c2) (own_keep HOX.out (Mod.of_below HB2.out) (fun _ _ h => h))
          have h2 := fiCells_set gs (fs.drop (k + 1)) x ⟨x.nm, x.data, A2, c2⟩ rfl
          rw [HGL.out] at h2
          rw [h2] at h1
          rw [List.append_assoc]
          exact h1
        · intro y hy b hbe
          injection hbe with hbe
          injection hbe with hbe
          subst hbe
          rcases List.mem_append.1 hy with hy | hy
          · exact own_keep (own_keep (HOF.out y hy _ rfl) (Mod.of_below HB2.out) (fun _ _ h => h)) hM (fun q hq hqg => by have := (HOF.out y hy _ rfl).lt q hq; have hqq : q = g := hqg; omega)
          · rw [List.mem_singleton] at hy
            subst hy
            exact ownF_low (own_keep HO2.out hM (fun q hq hqg => by have := HO2.out.lt q hq; have hqq : q = g := hqg; omega)) (by omega)
        · intro y hy
          rcases List.mem_append.1 hy with hy | hy
          · exact HCP.out y hy
          · rw [List.mem_singleton] at hy
            subst hy
            rcases HO2.out.2 with ⟨h1, h2⟩ | ⟨g', cap, cur, hv, _, _, hn, _⟩
            · simp only [Value.slice.injEq] at h1
              show x.data.length ≤ c2
              omega
            · simp only [Value.slice.injEq] at hv
              show x.data.length ≤ c2
              omega
        · exact hM.below (HBL.out.trans (HB2.out.mono HBL.out.size)) (HBL.out.trans (HB2.out.mono HBL.out.size)).size (fun q hq => by have hqq : q = g := hq; omega)
    · obtain rfl : k = l := by omega
      go_wp2
      go_ret
      have e1 : fs.take k = fs := List.take_of_length_le (by have := HL.out; omega)
      have e2 : fs.drop k = [] := List.drop_of_length_le (by have := HL.out; omega)
      have ho := HOWN.out
      rw [e2, List.append_nil] at ho
      refine ⟨A1, c1, gs, rfl, by rw [HK.out, e1], HGL.out, ⟨cells_of_ownF ho, fun g hg => ⟨?_, HCP.out g hg⟩⟩, HBL.out⟩
      rcases ownK_form ho with ⟨_, h0⟩ | ⟨g0, c', hv⟩
      · have := HGL.out
        have : gs = [] := List.eq_nil_of_length_eq_zero (by omega)
        subst this
        cases hg
      · simp only [Value.slice.injEq] at hv
        exact cells_of_ownF (HOF.out g hg g0 hv.1)
end Go.Proofs.YtaneifmbjkolaaaDoor
