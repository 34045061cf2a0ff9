/- Layer 38: the reference: Apply. -/
import Derived.Test.YtfnkbpcimbldbaaDoorMgQ14039
import Derived.Test.YtfnkbpcimbldbaaDoorMgQ140SPnDf
namespace Go.Proofs.YtfnkbpcimbldbaaDoor
open Go.RowKit Go.Maps

theorem findF_has (fs : List Fi) (s : ByteArray) (hr : Ris Fi.nm fs) : decide (0 ≤ findF fs s) = hasK Fi.nm fs s := by
  rcases findF_cases fs s hr with ⟨e1, e2⟩ | ⟨k, x, e1, hx, e2⟩
  · rw [e1]
    have := findK_some (k := Fi.nm) (l := fs) (s := s)
    rw [e2] at this
    rw [← this]
    rfl
  · rw [e1]
    have := findK_some (k := Fi.nm) (l := fs) (s := s)
    rw [e2] at this
    rw [← this]
    simp
set_option maxRecDepth 100000 in
set_option maxHeartbeats 8000000 in
theorem refApply_any (A1 A2 : Option Addr) (l1 c1 l2 c2 : Nat) (fs : List Fi) (os : List XO) (B : Nat) (w : World) (hl1 : fs.length = l1) (hl2 : os.length = l2) (hm1 : l1 ≤ 500) (hm2 : l2 ≤ 500) (hr : Ris Fi.nm fs) (hf : Files w B A1 fs) (ho : Cells w B A2 (xoCells os)) (hoo : ∀ o ∈ os, OkF w B o.fi) (how : ∀ o ∈ os, o.well) (hB : B ≤ w.heap.size) :
    Calls Tryd.prog 17 #[.slice A1 l1 c1, .slice A2 l2 c2] w fun e w' => ∃ A' c' gs, e = .returned (.tuple #[.slice A' gs.length c', .int .i64 (applyAll fs os).1]) ∧ gs.map Fi.key = (applyAll fs os).2.map Fi.key ∧ Files w' w'.heap.size A' gs ∧ Below w.heap.size w w' := by
  have HF := Lib.hid hf
  have HO := Lib.hid ho
  have HL1 := Lib.hid hl1
  have HL2 := Lib.hid hl2
  have HR := Lib.hid hr
  have HOO := Lib.hid hoo
  have HOW := Lib.hid how
  have HB := Lib.hid hB
  clear hf ho hl1 hl2 hr hoo how hB
  go_enter Tryd.func17, Tryd.ntmps17
  go_wp2
  go_loopg [0, 6, 7, 8] l2 (fun gk v i _ _ wr => ∃ (k : Nat) (Ar : Option Addr) (cr : Nat) (ms : List Fi), k + gk = l2 ∧ v = .slice Ar ms.length cr ∧ i = .int .i64 (k : Int) ∧ Ris Fi.nm ms ∧ ms.length ≤ 500 + k ∧ Files wr wr.heap.size Ar ms ∧ (applyAll fs os).1 = (applyAll ms (os.drop k)).1 ∧ (applyAll fs os).2.map Fi.key = (applyAll ms (os.drop k)).2.map Fi.key ∧ Below w.heap.size w wr)
  case atStart => exact ⟨0, A1, c1, fs, by omega, by rw [HL1.out], rfl, HR.out, by have := HL1.out; omega, HF.out.more HB.out, by rw [List.drop_zero], by rw [List.drop_zero], Below.refl _ _⟩
  case round =>
    obtain ⟨k, Ar, cr, ms, hk, rfl, rfl, hrm, hml, hfm, hap1, hap2, hbel⟩ := hrel
    have HRM := Lib.hid hrm
    have HFM := Lib.hid hfm
    have HP1 := Lib.hid hap1
    have HP2 := Lib.hid hap2
    have HBL := Lib.hid hbel
    clear hrm hfm hap1 hap2 hbel
    by_cases h : k < l2
    · obtain ⟨o, hx⟩ : ∃ x, os[k]? = some x := ⟨_, List.getElem?_eq_getElem (by have := HL2.out; omega)⟩
      obtain ⟨bb, oo, hbo, _, hc⟩ := (HO.out.below HBL.out HB.out) (by rw [xo_len]; have := HL2.out; omega)
      obtain ⟨d0, d1, d2, d3, d4, d5, d6⟩ := xo_at hc hx
      have HBO := Lib.hid hbo
      rw [hbo]
      have HDR : Hid (os.drop k = o :: os.drop (k + 1)) := by
        obtain ⟨h1, h2⟩ := List.getElem?_eq_some_iff.1 hx
        show _ = _
        rw [← h2]
        exact List.drop_eq_getElem_cons h1
      have HOX := Lib.hid (HOO.out o (List.mem_of_getElem? hx))
      have hki2 : (k : Int) < (l2 : Int) := by omega
      have hw1 : IntKind.i64.wrap ((k : Int) + 1) = (k : Int) + 1 := IntWalk.i64_in _ (by omega)
      obtain ⟨m, hm⟩ : ∃ m, wr.heap.size = m := ⟨_, rfl⟩
      obtain ⟨n3, a4, l4, c4, n5, n6, e3, e4, e5, e6⟩ := HOW.out o (List.mem_of_getElem? hx)
      rw [e3] at d3
      rw [e4] at d4
      rw [e5] at d5
      rw [e6] at d6
      obtain ⟨W6, hW6⟩ : ∃ W6, wr.alloc (.cells #[.int .i64 o.kd, .string o.nm, .slice o.ad o.data.length o.cp, .int .i64 n3, .slice a4 l4 c4, .int .i64 n5, .int .u8 n6] 49) = W6 := ⟨_, rfl⟩
      have hx6 : W6.heap[m]? = some (.cells #[.int .i64 o.kd, .string o.nm, .slice o.ad o.data.length o.cp, .int .i64 n3, .slice a4 l4 c4, .int .i64 n5, .int .u8 n6] 49 (0, 0)) := by rw [← hW6, ← hm]; exact heap_alloc_new wr _
      have HB6 : Hid (Below wr.heap.size wr W6) := by show Below _ _ _; rw [← hW6]; exact (Below.refl _ wr).alloc (Nat.le_refl _) _
      have HCB : Hid (∀ V, Below W6.heap.size W6 V → V.cell? ⟨m, 0, none⟩ = some (.int .i64 o.kd) ∧ V.cell? ⟨m, 1, none⟩ = some (.string o.nm) ∧ V.cell? ⟨m, 2, none⟩ = some (.slice o.ad o.data.length o.cp)) := fun V hV => by
        have := (hV.block _ (Array.getElem?_eq_some_iff.1 hx6).1).trans hx6
        exact ⟨cell_of_row _ _ 0 _ _ _ this, cell_of_row _ _ 1 _ _ _ this, cell_of_row _ _ 2 _ _ _ this⟩
      obtain ⟨u0, u1, u2⟩ := HCB.out W6 (Below.refl _ _)
      have HF6 := Lib.hid ((HFM.out.below HB6.out (Nat.le_refl _)).more HB6.out.size)
      have HB6W := Lib.hid (HBL.out.trans (HB6.out.mono HBL.out.size))
      have HFN := Lib.hid (refFind25_any Ar ms.length cr ms o.nm W6.heap.size W6 rfl (by omega) HRM.out HF6.out)
      have HRT := Lib.hid (refRight_any o.nm W6 (by have := HOX.out.2.2; unfold maxLen; exact Nat.le_trans this (by decide)))
      obtain ⟨q, hq⟩ : ∃ q, findF ms o.nm = q := ⟨_, rfl⟩
      have hqh := findF_has ms o.nm HRM.out
      rw [hq] at hqh HFN
      obtain ⟨th, hth⟩ : ∃ t, hasK Fi.nm ms o.nm = t := ⟨_, rfl⟩
      rw [hth] at hqh
      have HTH := Lib.hid hth
      obtain ⟨rb, hrb⟩ : ∃ rb, rightB o.nm.data.toList = rb := ⟨_, rfl⟩
      rw [hrb] at HRT
      have HRB := Lib.hid hrb
      have HNO : Hid (∀ E, applyE ms o = E → E ≠ 0 → (applyAll fs os).1 = E ∧ (applyAll fs os).2.map Fi.key = ([] : List Fi).map Fi.key) := fun E h1 h2 => by
        rw [HP1.out, HP2.out, HDR.out]
        show (if applyE ms o = 0 then applyAll (applyM ms o) _ else (applyE ms o, [])).1 = E ∧ (if applyE ms o = 0 then applyAll (applyM ms o) _ else (applyE ms o, [])).2.map Fi.key = _
        rw [h1, if_neg h2]
        exact ⟨rfl, rfl⟩
      have HYE : Hid (∀ ms' : List Fi, applyE ms o = 0 → ms'.map Fi.key = (applyM ms o).map Fi.key → (applyAll fs os).1 = (applyAll ms' (os.drop (k + 1))).1 ∧ (applyAll fs os).2.map Fi.key = (applyAll ms' (os.drop (k + 1))).2.map Fi.key) := fun ms' h1 h2 => by
        rw [HP1.out, HP2.out, HDR.out]
        show (if applyE ms o = 0 then applyAll (applyM ms o) _ else (applyE ms o, [])).1 = _ ∧ (if applyE ms o = 0 then applyAll (applyM ms o) _ else (applyE ms o, [])).2.map Fi.key = _
        rw [h1, if_pos rfl]
        exact applyAll_key h2.symm rfl
      obtain ⟨kd, hkd⟩ : ∃ kd, o.kd = kd := ⟨_, rfl⟩
      rw [hkd] at d0 u0
      have HKD := Lib.hid hkd
      clear hx hc hbo hx6 hq hth hrb e3 e4 e5 e6 hkd
      rw [HKD.out] at hW6
      by_cases k11 : kd = 11
      · subst k11
        have k3 : ¬ o.kd = 3 := by rw [HKD.out]; decide
        cases th with
        | false =>
          have HAE : Hid (applyE ms o = 7) := by show _ = _; unfold applyE; rw [if_neg k3, if_pos HKD.out, if_neg (by rw [HTH.out]; decide)]
          clear k3
          go_wp2_with (go_at_call 28; refine HFN.out.mono ?_; rintro e w7 ⟨rfl, rfl⟩)
          go_ret2
          obtain ⟨g1, g2⟩ := HNO.out 7 HAE.out (by decide)
          exact ⟨none, 0, [], by rw [g1]; rfl, by rw [g2], ⟨fun hp => absurd hp (Nat.lt_irrefl _), by intro f hf; cases hf⟩, HB6W.out⟩
        | true =>
          have HAE : Hid (applyE ms o = 0) := by show _ = _; unfold applyE; rw [if_neg k3, if_pos HKD.out, if_pos HTH.out]
          have HAM : Hid (applyM ms o = outK Fi.nm ms o.nm) := by show _ = _; unfold applyM; rw [if_pos HAE.out]; exact if_neg k3
          have HWO := Lib.hid (refWithout25_any Ar ms.length cr ms o.nm W6.heap.size W6 rfl (by omega) HF6.out.row (Nat.le_refl _))
          clear k3
          go_wp2_with (first | (go_at_call 28; refine HFN.out.mono ?_; rintro e w7 ⟨rfl, rfl⟩) | (go_at_call 33; refine HWO.out.mono ?_; rintro e w9 ⟨A9, c9, rfl, ho9, hb9⟩; have HO9 := Lib.hid ho9; have HB9 := Lib.hid hb9; clear ho9 hb9))
          rw [← HBO.out]
          go_roundg (gk - 1)
          case measure => omega
          case rel =>
            obtain ⟨g1, g2⟩ := HYE.out (outK Fi.nm ms o.nm) HAE.out (by rw [HAM.out])
            refine ⟨k + 1, A9, c9, outK Fi.nm ms o.nm, by omega, rfl, by go_num, HRM.out.outK _, by have := len_out ms o.nm; omega, ⟨cells_of_ownF HO9.out, fun f hf => ?_⟩, g1, g2, HB6W.out.trans (HB9.out.mono HB6W.out.size)⟩
            have := HF6.out.each f (mem_outK hf)
            exact ⟨(this.1.below HB9.out (Nat.le_refl _)).more HB9.out.size, this.2⟩
      · have t11 : (kd == 11) = false := by simpa using k11
        by_cases k3 : kd = 3
        · subst k3
          have hkd3 : o.kd = 3 := HKD.out
          cases rb with
          | false =>
            have HAE : Hid (applyE ms o = 6) := by show _ = _; unfold applyE; rw [if_pos hkd3, if_pos HRB.out]
            clear hkd3
            go_wp2_with (first | (go_at_call 28; refine HFN.out.mono ?_; rintro e w7 ⟨rfl, rfl⟩) | (go_at_call 23; refine HRT.out.mono ?_; rintro e w8 ⟨rfl, hb8⟩; have HB8 := Lib.hid hb8; obtain ⟨v0, v1, v2⟩ := HCB.out w8 hb8; clear hb8))
            go_ret2
            obtain ⟨g1, g2⟩ := HNO.out 6 HAE.out (by decide)
            exact ⟨none, 0, [], by rw [g1]; rfl, by rw [g2], ⟨fun hp => absurd hp (Nat.lt_irrefl _), by intro f hf; cases hf⟩, HB6W.out.trans (HB8.out.mono HB6W.out.size)⟩
          | true =>
            have hrt : ¬ rightB o.nm.data.toList = false := by rw [HRB.out]; decide
            by_cases hd : 65536 < o.data.length
            · have td : decide (65536 < (o.data.length : Int)) = true := by simp; omega
              have HAE : Hid (applyE ms o = 5) := by show _ = _; unfold applyE; rw [if_pos hkd3, if_neg hrt, if_pos hd]
              clear hkd3 hd hrt
              go_wp2_with (first | (go_at_call 28; refine HFN.out.mono ?_; rintro e w7 ⟨rfl, rfl⟩) | (go_at_call 23; refine HRT.out.mono ?_; rintro e w8 ⟨rfl, hb8⟩; have HB8 := Lib.hid hb8; obtain ⟨v0, v1, v2⟩ := HCB.out w8 hb8; clear hb8))
              go_ret2
              obtain ⟨g1, g2⟩ := HNO.out 5 HAE.out (by decide)
              exact ⟨none, 0, [], by rw [g1]; rfl, by rw [g2], ⟨fun hp => absurd hp (Nat.lt_irrefl _), by intro f hf; cases hf⟩, HB6W.out.trans (HB8.out.mono HB6W.out.size)⟩
            · have td : decide (65536 < (o.data.length : Int)) = false := by simp; omega
              by_cases hlim : hasK Fi.nm ms o.nm = false ∧ 200 ≤ ms.length
              · have HAE : Hid (applyE ms o = 14) := by show _ = _; unfold applyE; rw [if_pos hkd3, if_neg hrt, if_neg hd, if_pos hlim]
                obtain rfl : th = false := HTH.out.symm.trans hlim.1
                have tl : decide (199 < (ms.length : Int)) = true := by have := hlim.2; simp; omega
                clear hkd3 hd hrt hlim
                go_wp2_with (first | (go_at_call 28; refine HFN.out.mono ?_; rintro e w7 ⟨rfl, rfl⟩) | (go_at_call 23; refine HRT.out.mono ?_; rintro e w8 ⟨rfl, hb8⟩; have HB8 := Lib.hid hb8; obtain ⟨v0, v1, v2⟩ := HCB.out w8 hb8; clear hb8))
                go_ret2
                obtain ⟨g1, g2⟩ := HNO.out 14 HAE.out (by decide)
                exact ⟨none, 0, [], by rw [g1]; rfl, by rw [g2], ⟨fun hp => absurd hp (Nat.lt_irrefl _), by intro f hf; cases hf⟩, HB6W.out.trans (HB8.out.mono HB6W.out.size)⟩
              · have HAE : Hid (applyE ms o = 0) := by show _ = _; unfold applyE; rw [if_pos hkd3, if_neg hrt, if_neg hd, if_neg hlim]
                have HAM : Hid (applyM ms o = withK Fi.nm ms o.fi) := by show _ = _; unfold applyM; rw [if_pos HAE.out]; exact if_pos hkd3
                have tl : th = true ∨ (th = false ∧ decide (199 < (ms.length : Int)) = false) := by
                  cases th with
                  | true => exact .inl rfl
                  | false => exact .inr ⟨rfl, decide_eq_false (fun h => hlim ⟨HTH.out, by omega⟩)⟩
                have HFV : Hid (∀ V, Below W6.heap.size W6 V → Calls Tryd.prog 34 #[.slice Ar ms.length cr, .string o.nm, .string ⟨o.data.toArray⟩] V fun e w' => ∃ A' c' m, m.nm = o.nm ∧ m.data = o.data ∧ e = .returned (.slice A' (withK Fi.nm ms m).length c') ∧ (withK Fi.nm ms m).length ≤ ms.length + 1 ∧ Files w' w'.heap.size A' (withK Fi.nm ms m) ∧ Below V.heap.size V w') := fun V hV =>
                  (refWith25_any Ar ms.length cr ms o.nm ⟨o.data.toArray⟩ V.heap.size V rfl (by omega) HRM.out ((HF6.out.below hV (Nat.le_refl _)).more hV.size) (Nat.le_refl _)).mono fun e w' ⟨A', c', m, h1, h2, h3⟩ => ⟨A', c', m, h1, h2.trans (by simp), h3⟩
                have HCV : Hid (∀ V, Below W6.heap.size W6 V → (convert 30 9 (.slice o.ad o.data.length o.cp)).run Tryd.prog V = .ok (.string ⟨o.data.toArray⟩) V) := fun V hV => strF_any V o.ad o.data.length o.cp B o.data (HOX.out.1.below (HB6W.out.trans (hV.mono HB6W.out.size)) HB.out) rfl
                clear hkd3 hd hrt hlim
                rcases tl with rfl | ⟨rfl, tl⟩
                · go_wp2_with (first | (go_at_call 28; refine HFN.out.mono ?_; rintro e w7 ⟨rfl, rfl⟩) | (go_at_call 23; refine HRT.out.mono ?_; rintro e w8 ⟨rfl, hb8⟩; have HB8 := Lib.hid hb8; obtain ⟨v0, v1, v2⟩ := HCB.out w8 hb8; have hcv := HCV.out w8 hb8; clear hb8) | (go_at_call 34; refine (HFV.out w8 HB8.out).mono ?_; rintro e w9 ⟨A9, c9, mm, hmn, hmd, rfl, hml9, hf9, hb9⟩; have HMN := Lib.hid hmn; have HMD := Lib.hid hmd; have HML9 := Lib.hid hml9; have HF9 := Lib.hid hf9; have HB9 := Lib.hid hb9; clear hmn hmd hml9 hf9 hb9))
                  rw [← HBO.out]
                  go_roundg (gk - 1)
                  case measure => omega
                  case rel =>
                    obtain ⟨g1, g2⟩ := HYE.out (withK Fi.nm ms mm) HAE.out (by rw [HAM.out, with_key, with_key]; unfold Fi.key XO.fi; rw [HMN.out, HMD.out])
                    exact ⟨k + 1, A9, c9, withK Fi.nm ms mm, by omega, rfl, by go_num, HRM.out.withK _, by have := HML9.out; omega, HF9.out, g1, g2, HB6W.out.trans ((HB8.out.trans (HB9.out.mono HB8.out.size)).mono HB6W.out.size)⟩
                · go_wp2_with (first | (go_at_call 28; refine HFN.out.mono ?_; rintro e w7 ⟨rfl, rfl⟩) | (go_at_call 23; refine HRT.out.mono ?_; rintro e w8 ⟨rfl, hb8⟩; have HB8 := Lib.hid hb8; obtain ⟨v0, v1, v2⟩ := HCB.out w8 hb8; have hcv := HCV.out w8 hb8; clear hb8) | (go_at_call 34; refine (HFV.out w8 HB8.out).mono ?_; rintro e w9 ⟨A9, c9, mm, hmn, hmd, rfl, hml9, hf9, hb9⟩; have HMN := Lib.hid hmn; have HMD := Lib.hid hmd; have HML9 := Lib.hid hml9; have HF9 := Lib.hid hf9; have HB9 := Lib.hid hb9; clear hmn hmd hml9 hf9 hb9))
                  rw [← HBO.out]
                  go_roundg (gk - 1)
                  case measure => omega
                  case rel =>
                    obtain ⟨g1, g2⟩ := HYE.out (withK Fi.nm ms mm) HAE.out (by rw [HAM.out, with_key, with_key]; unfold Fi.key XO.fi; rw [HMN.out, HMD.out])
                    exact ⟨k + 1, A9, c9, withK Fi.nm ms mm, by omega, rfl, by go_num, HRM.out.withK _, by have := HML9.out; omega, HF9.out, g1, g2, HB6W.out.trans ((HB8.out.trans (HB9.out.mono HB8.out.size)).mono HB6W.out.size)⟩
        · have t3 : (kd == 3) = false := by simpa using k3
          have HAE : Hid (applyE ms o = 1) := by show _ = _; unfold applyE; rw [if_neg (by rw [HKD.out]; exact k3), if_neg (by rw [HKD.out]; exact k11)]
          go_wp2_with (go_at_call 28; refine HFN.out.mono ?_; rintro e w7 ⟨rfl, rfl⟩)
          go_ret2
          obtain ⟨g1, g2⟩ := HNO.out 1 HAE.out (by decide)
          exact ⟨none, 0, [], by rw [g1]; rfl, by rw [g2], ⟨fun hp => absurd hp (Nat.lt_irrefl _), by intro f hf; cases hf⟩, HB6W.out⟩
    · obtain rfl : l2 = k := by omega
      have hki2 : ¬ (l2 : Int) < (l2 : Int) := by omega
      have e1 := HP1.out
      have e2 := HP2.out
      rw [List.drop_of_length_le (by rw [HL2.out]; exact Nat.le_refl _)] at e1 e2
      have E1 := Lib.hid e1
      have E2 := Lib.hid e2
      clear e1 e2
      go_wp2
      go_ret2
      exact ⟨Ar, cr, ms, by rw [E1.out]; rfl, by rw [E2.out]; rfl, HFM.out, HBL.out⟩
end Go.Proofs.YtfnkbpcimbldbaaDoor
/- Layer 38: the law PlanApplies. -/
namespace Go.Proofs.YtfnkbpcimbldbaaDoor
open Go.RowKit Go.Maps

set_option maxHeartbeats 1000000 in
theorem great38_any (A : Option Addr) (l c : Nat) (fs : List XO) (B : Nat) (w : World) (hl : fs.length = l) (hb : Cells w B A (xoCells fs)) :
    Calls Tryd.prog 15 #[.slice A l c] w fun e w' => ∃ o : Bool, e = .returned (.bool o) ∧ w = w' ∧ (o = false → fs.length ≤ 250 ∧ ∀ f ∈ fs, f.nm.size ≤ 300 ∧ f.data.length ≤ 70000) := by
  have HC := Lib.hid hb
  clear hb
  go_enter Tryd.func15, Tryd.ntmps15
  go_wp2
  go_loopg [3] l (fun gk i wr => ∃ k : Nat, k + gk = l ∧ k ≤ 300 ∧ i = .int .i64 k ∧ wr = w ∧ ∀ (j : Nat) (f : XO), j < k → fs[j]? = some f → f.nm.size ≤ 300 ∧ f.data.length ≤ 70000)
  case atStart => exact ⟨0, by omega, by omega, rfl, rfl, fun j f hj => absurd hj (Nat.not_lt_zero _)⟩
  case round =>
    obtain ⟨k, hk, hk3, rfl, rfl, hall⟩ := hrel
    have HA := Lib.hid hall
    clear hall
    by_cases h : k < l
    · by_cases h3 : k < 300
      · obtain ⟨f, hx⟩ : ∃ x, fs[k]? = some x := ⟨_, List.getElem?_eq_getElem (by omega)⟩
        obtain ⟨b, o, rfl, _, hc⟩ := HC.out (by rw [xo_len]; omega)
        obtain ⟨_, c0, c1, _, _, _, _⟩ := xo_at hc hx
        have HX := Lib.hid hx
        have hd3 : decide ((k : Int) < 300) = true := by simp; omega
        have HK3 := Lib.hid h3
        have hw1 : IntKind.i64.wrap ((k : Int) + 1) = (k : Int) + 1 := IntWalk.i64_in _ (by omega)
        clear hc hx h3 hk3
        by_cases hs : 300 < f.nm.size
        · have hd : decide (300 < (f.nm.size : Int)) = true := by simp; omega
          clear hs
          go_wp2
          go_ret
          exact ⟨true, rfl, rfl, fun h => by cases h⟩
        · have hd : decide (300 < (f.nm.size : Int)) = false := by simp; omega
          by_cases hs2 : 70000 < f.data.length
          · have hd2 : decide (70000 < (f.data.length : Int)) = true := by simp; omega
            clear hs hs2
            go_wp2
            go_ret
            exact ⟨true, rfl, rfl, fun h => by cases h⟩
          · have hd2 : decide (70000 < (f.data.length : Int)) = false := by simp; omega
            have HNA : Hid (f.nm.size ≤ 300 ∧ f.data.length ≤ 70000) := by constructor <;> omega
            clear hs hs2
            go_wp2
            go_roundg (gk - 1)
            case measure => omega
            case rel =>
              have hk3 := HK3.out
              exact ⟨k + 1, by omega, by omega, by go_num, rfl, fun j f' hj hf' => by
              by_cases hjk : j = k
              · subst hjk
                rw [HX.out] at hf'
                injection hf' with hf'
                subst hf'
                exact HNA.out
              · exact HA.out j f' (by omega) hf'⟩
      · obtain rfl : k = 300 := by omega
        have hl2 : decide (250 < (l : Int)) = true := by simp; omega
        go_wp2
        go_ret
        exact ⟨true, by rw [← hl2]; rfl, rfl, fun h => by cases h⟩
    · obtain rfl : k = l := by omega
      go_wp2
      go_ret
      exact ⟨decide (250 < (k : Int)), rfl, rfl, fun hd => ⟨by simp at hd; omega, fun f hf => by
        obtain ⟨j, hj⟩ := List.mem_iff_getElem?.1 hf
        exact HA.out j f (by have := (List.getElem?_eq_some_iff.1 hj).1; omega) hj⟩⟩
theorem OkF.up {w w' : World} {B B' : Nat} {f : Fi} (h : OkF w B f) (hb : Below B w w') (hB : B ≤ B') : OkF w' B' f := ⟨(h.1.below hb (Nat.le_refl _)).more hB, h.2⟩
theorem applyAll_no : ∀ (os : List XO) (l : List Fi), (applyAll l os).1 ≠ 0 → (applyAll l os).2 = []
  | [], _, h => absurd rfl h
  | o :: os, l, h => by
    show (if applyE l o = 0 then applyAll (applyM l o) os else (applyE l o, [])).2 = []
    have h : (if applyE l o = 0 then applyAll (applyM l o) os else (applyE l o, [])).1 ≠ 0 := h
    by_cases e : applyE l o = 0
    · rw [if_pos e] at h ⊢
      exact applyAll_no os _ h
    · rw [if_neg e]
set_option maxRecDepth 100000 in
set_option maxHeartbeats 4000000 in
theorem planApplies_any (A0 A1 : Option Addr) (l0 c0 l1 c1 : Nat) (fs : List Fi) (os : List XO) (W0 : World) (hl0 : fs.length = l0) (hl1 : os.length = l1) (hf : Files W0 W0.heap.size A0 fs) (ho : Cells W0 W0.heap.size A1 (xoCells os)) (hob : ∀ o ∈ os, Bytes W0 W0.heap.size o.ad o.data) (how : ∀ o ∈ os, o.well) :
    Calls Tryd.prog 4 #[.slice A0 l0 c0, .slice A1 l1 c1] W0 fun e w' => e = .returned (.bool true) ∧ Below W0.heap.size W0 w' := by
  have HF := Lib.hid hf
  have HO := Lib.hid ho
  have HOB := Lib.hid hob
  have HOW := Lib.hid how
  have HL := Lib.hid hl0
  have HL1 := Lib.hid hl1
  have HLV : Hid (∀ V, Below W0.heap.size W0 V → Calls Tryd.prog 8 #[] V fun e w' => e = .returned (.bool true) ∧ Below W0.heap.size W0 w') := fun V hV => (lives38_any V).mono fun e w' ⟨h1, h2⟩ => ⟨h1, hV.trans (h2.mono hV.size)⟩
  clear hf ho hob how hl0 hl1
  go_enter Tryd.func4, Tryd.ntmps4
  go_wp2_with fail
  refine (wide38_any A0 l0 c0 fs W0.heap.size W0 HL.out HF.out).mono ?_
  rintro e wq ⟨o0, rfl, hwq, ho0⟩
  have HO0 := Lib.hid ho0
  subst hwq
  clear ho0
  cases o0 with
  | true =>
    go_wp2_with fail
    refine (HLV.out _ (Below.refl W0.heap.size W0)).mono ?_
    rintro e wL ⟨rfl, hbL⟩
    go_wp2
    go_ret
    exact ⟨rfl, hbL⟩
  | false =>
    have HS0 := Lib.hid (HO0.out rfl)
    clear HO0
    go_wp2_with fail
    refine (great38_any A1 l1 c1 os W0.heap.size W0 HL1.out HO.out).mono ?_
    rintro e wq ⟨o1, rfl, hwq, ho1⟩
    have HO1 := Lib.hid ho1
    subst hwq
    clear ho1
    cases o1 with
    | true =>
      go_wp2_with fail
      refine (HLV.out _ (Below.refl W0.heap.size W0)).mono ?_
      rintro e wL ⟨rfl, hbL⟩
      go_wp2
      go_ret
      exact ⟨rfl, hbL⟩
    | false =>
      have HS1 := Lib.hid (HO1.out rfl)
      clear HO1
      have hm0 : l0 ≤ 250 := by have h1 := HS0.out.1; have h2 := HL.out; omega
      have hm1 : l1 ≤ 250 := by have h1 := HS1.out.1; have h2 := HL1.out; omega
      go_wp2_with fail
      obtain ⟨q0, hq0⟩ : ∃ q, mapB fs = q := ⟨_, rfl⟩
      have HM0 := Lib.hid (refMap25_any A0 l0 c0 fs W0.heap.size W0 HL.out (by omega) HF.out)
      rw [hq0] at HM0
      refine HM0.out.mono ?_
      rintro e w1 ⟨rfl, n0, hw0⟩
      have HB5 : Hid (Below W0.heap.size W0 w1) := by show Below _ _ _; rw [← hw0]; exact Below.drewN (Below.refl _ _) _
      have HQ0 := Lib.hid hq0
      clear hw0 hq0 HM0
      cases q0 with
      | false =>
        go_wp2_with fail
        refine (HLV.out _ HB5.out).mono ?_
        rintro e wL ⟨rfl, hbL⟩
        go_wp2
        go_ret
        exact ⟨rfl, hbL⟩
      | true =>
        have HR := Lib.hid (mapB_ris HQ0.out)
        go_wp2
        go_loopg [5, 6] l0 (fun gk v i wr => ∃ (k : Nat) (hs : List Fi), k + gk = l0 ∧ i = .int .i64 (k : Int) ∧ hs.map Fi.key = (fs.take k).map Fi.key ∧ hs.length = k ∧ wr.ownsRow w1.heap.size 32 2 v k (fiCells hs) ∧ (∀ h ∈ hs, TxtB wr h ∧ h.data.length ≤ h.cp) ∧ Below W0.heap.size W0 wr ∧ w1.heap.size ≤ wr.heap.size)
        case atStart => exact ⟨0, [], by omega, rfl, rfl, rfl, World.ownsRow_nil _ _ _ _, fun h hh => (by cases hh), HB5.out, Nat.le_refl _⟩
        case round =>
          obtain ⟨k, hs, hk, rfl, hkey, hhl, hown, htx, hbel, hsz⟩ := hrel
          have HK := Lib.hid hkey
          have HHL := Lib.hid hhl
          have HOWN := Lib.hid hown
          have HTX := Lib.hid htx
          have HBL := Lib.hid hbel
          have HSZ := Lib.hid hsz
          clear hkey hhl hown htx hbel hsz
          obtain ⟨Ak, ck, rfl⟩ := own_form' HOWN.out
          by_cases h : k < l0
          · obtain ⟨y, hy⟩ : ∃ y, fs[k]? = some y := ⟨_, List.getElem?_eq_getElem (by have := HL.out; omega)⟩
            obtain ⟨b, o, rfl, hbB, hc⟩ := HF.out.row (by rw [fi_len]; have := HL.out; omega)
            have HMT : Hid (∀ W, Below W0.heap.size W0 W → W.cell? ⟨b, o + k * 2, none⟩ = some (.string y.nm) ∧ W.cell? ⟨b, o + k * 2 + 1, none⟩ = some (.slice y.ad y.data.length y.cp)) := fun W hW => fi_at (fun j u hj => (hW.cell (p := ⟨b, o + j, none⟩) hbB).trans (hc j u hj)) hy
            have HBY := Lib.hid (HF.out.each y (List.mem_of_getElem? hy)).1
            have HYD := Lib.hid ((HS0.out.2 y (List.mem_of_getElem? hy)).2)
            have HTK := Lib.hid (takeF_snoc hy)
            clear hc hy
            obtain ⟨sy, hsy⟩ : ∃ sy, (⟨y.data.toArray⟩ : ByteArray) = sy := ⟨_, rfl⟩
            have hsl : sy.size = y.data.length := by rw [← hsy]; rfl
            have hsd : sy.data.toList = y.data := by rw [← hsy]
            obtain ⟨c0, c1⟩ := HMT.out wr.drew HBL.out.drew
            have k1 : (convert 30 9 (.slice y.ad y.data.length y.cp)).run Tryd.prog wr.drew = .ok (.string sy) wr.drew := by rw [← hsy]; exact strF_any _ y.ad y.data.length y.cp W0.heap.size y.data (HBY.out.below HBL.out.drew (Nat.le_refl _)) rfl
            obtain ⟨cap, WA, C, fr, hrun, hba, hWA, hCC, hcap⟩ := toB_blk wr.drew sy
            have hsz : wr.drew.heap.size = wr.heap.size := rfl
            rw [hsz] at hrun hba
            have HBA := Lib.hid (HBL.out.drew.trans (hba.mono HBL.out.size))
            subst hWA
            obtain ⟨d0, d1⟩ := HMT.out (wr.alloc (.cells C 5 fr)) (HBL.out.alloc HBL.out.size _)
            have hw1 : IntKind.i64.wrap ((k : Int) + 1) = (k : Int) + 1 := IntWalk.i64_in _ (by omega)
            obtain ⟨D, hD⟩ : ∃ D : Array Value, D = #[.string y.nm, .slice (some ⟨wr.heap.size, 0, none⟩) y.data.length cap] := ⟨_, rfl⟩
            obtain ⟨WB, hWB⟩ : ∃ WB, WB = ((wr.alloc (.cells C 5 fr)).alloc (.cells #[.string y.nm, .slice (some ⟨wr.heap.size, 0, none⟩) y.data.length cap] 32)).drew.drew := ⟨_, rfl⟩
            have HWB := Lib.hid hWB
            have HZB : Hid (WB.heap.size = wr.heap.size + 2) := by show _ = _; rw [hWB]; show ((wr.alloc _).alloc _).heap.size = _; rw [World.size_alloc, World.size_alloc]
            have HBB : Hid (Below wr.heap.size wr WB) := by show Below _ _ _; rw [hWB]; exact (((Below.refl _ wr).alloc (Nat.le_refl _) _).alloc (by simp) _).drew.drew
            have HOB : Hid (WB.ownsRow w1.heap.size 32 2 (.slice Ak k ck) k (fiCells hs)) := own_keep HOWN.out (Mod.of_below HBB.out) (fun _ _ h => h)
            have HRB : Hid (WB.heap[wr.heap.size + 1]? = some (.cells #[.string y.nm, .slice (some ⟨wr.heap.size, 0, none⟩) y.data.length cap] 32 (0, 0))) := by
              show _ = _
              rw [hWB]
              have h1 := heap_alloc_new (wr.alloc (.cells C 5 fr)) (.cells #[.string y.nm, .slice (some ⟨wr.heap.size, 0, none⟩) y.data.length cap] 32)
              rw [World.size_alloc] at h1
              exact h1
            have HTB : Hid (WB.heap[wr.heap.size]? = some (.cells C 5 fr)) := by
              show _ = _
              rw [hWB]
              exact (Below.heap_alloc (wr.alloc (.cells C 5 fr)) _ wr.heap.size (by simp)).trans (heap_alloc_new wr _)
            have HCB : Hid (Cells WB WB.heap.size (some ⟨wr.heap.size + 1, 0, none⟩) [.string y.nm, .slice (some ⟨wr.heap.size, 0, none⟩) y.data.length cap]) := fun _ => ⟨_, 0, rfl, by rw [HZB.out]; omega, fun j u hj => by rw [Nat.zero_add, cell_of_row _ _ _ _ _ _ HRB.out]; simpa using hj⟩
            have HBS : Hid (w1.heap.size ≤ WB.heap.size) := by rw [HZB.out]; have := HSZ.out; show _ ≤ _; omega
            have HCC : Hid (∀ (j : Nat) (u : Value), (byteCells y.data)[j]? = some u → C[j]? = some u) := by rw [← hsd]; exact hCC
            have HCAP : Hid (y.data.length ≤ cap) := by rw [← hsl]; exact hcap
            clear hba hWB hD hCC hcap hsd
            go_wp2_with fail
            go_region_law (refine step_app (((wr.alloc (.cells C 5 fr)).alloc (.cells #[.string y.nm, .slice (some ⟨wr.heap.size, 0, none⟩) y.data.length cap] 32)).drew.drew) fileElem (by rfl) (.tmp 31) (.tmp 45) (by rfl) w1.heap.size (.slice Ak k ck) k (fiCells hs) (by rfl) (by rw [← HWB.out]; exact HOB.out) WB.heap.size (some ⟨wr.heap.size + 1, 0, none⟩) 1 1 [.string y.nm, .slice (some ⟨wr.heap.size, 0, none⟩) y.data.length cap] (by rfl) (by rfl) (by rw [← HWB.out]; exact HCB.out) (by intro u hu; simp only [List.mem_cons, List.not_mem_nil, or_false] at hu; rcases hu with rfl | rfl <;> rfl) (by unfold maxLen; omega) (by omega) (by rw [← HWB.out]; exact HBS.out) ?_; intro A3 c3 w7 hA; have HA : Hid (App WB w1.heap.size 32 2 (.slice Ak k ck) (k + 1) (fiCells hs ++ [.string y.nm, .slice (some ⟨wr.heap.size, 0, none⟩) y.data.length cap]) w7 (.slice A3 (k + 1) c3)) := (by rw [HWB.out]; exact hA); clear hA)
            all_goals
              go_wp2
              go_roundg (gk - 1)
              case measure => omega
              case rel =>
                have ho := HA.out.own
                refine ⟨k + 1, hs ++ [⟨y.nm, y.data, some ⟨wr.heap.size, 0, none⟩, cap⟩], by omega, by go_num, ?_, by rw [List.length_append, HHL.out]; rfl, ?_, ?_, HA.out.below (HBL.out.trans (HBB.out.mono HBL.out.size)) (HBL.out.trans (HBB.out.mono HBL.out.size)).size (fun q hq => Nat.le_trans (HB5.out.size) ((HOB.out.lt q hq).1)), Nat.le_trans HBS.out HA.out.grow.size⟩
                · rw [HTK.out, List.map_append, List.map_append, HK.out]; rfl
                · rw [fiCells_snoc]
                  exact ho
                · intro z hz
                  rcases List.mem_append.1 hz with hz | hz
                  · refine ⟨?_, (HTX.out z hz).2⟩
                    obtain ⟨b', C', fr', e1, e2, e3⟩ := (HTX.out z hz).1
                    exact TxtB.keep ⟨b', C', fr', e1, (HBB.out.block b' (Array.getElem?_eq_some_iff.1 e2).1).trans e2, e3⟩ HA.out.grow (own_blk HOB.out)
                  · rw [List.mem_singleton] at hz
                    subst hz
                    exact ⟨TxtB.keep ⟨_, C, fr, rfl, HTB.out, HCC.out⟩ HA.out.grow (own_blk HOB.out), HCAP.out⟩
          · obtain rfl : l0 = k := by omega
            have hki : ¬ (l0 : Int) < (l0 : Int) := by omega
            have HKEY : Hid (hs.map Fi.key = fs.map Fi.key) := by show _ = _; rw [HK.out, List.take_of_length_le (by have := HL.out; omega)]
            have HRH : Hid (Ris Fi.nm hs) := ris_of_key HKEY.out HR.out
            have HFO : Hid (Files wr wr.heap.size Ak hs) := Files.of_own HOWN.out (fun f hf => ⟨(HTX.out f hf).1.bytes, (HTX.out f hf).2⟩)
            have hck : l0 ≤ ck := own_capF HOWN.out
            have HOKO : Hid (∀ o ∈ os, OkF W0 W0.heap.size o.fi) := fun o ho => ⟨HOB.out o ho, (HS1.out.2 o ho).2, (HS1.out.2 o ho).1⟩
            have HOKH : Hid (∀ f ∈ hs, OkF wr wr.heap.size f) := fun f hf => by
              obtain ⟨i, hi⟩ := List.mem_iff_getElem?.1 hf
              obtain ⟨y, hy, hn, hd⟩ := key_get HKEY.out hi
              have h2 := HS0.out.2 y (List.mem_of_getElem? hy)
              exact ⟨(HTX.out f hf).1.bytes, by rw [hd]; exact h2.2, by rw [hn]; exact h2.1⟩
            obtain ⟨hE1, hE2⟩ := applyAll_key (os := os) (ps := os) HKEY.out rfl
            obtain ⟨E, hE⟩ : ∃ E, (applyAll fs os).1 = E := ⟨_, rfl⟩
            have HE := Lib.hid hE
            have HE1 := Lib.hid (hE1.trans hE)
            have HE2 := Lib.hid hE2
            have hEE : (E != E) = false := by simp
            have hB0 := HBL.out.size
            have HUP : Hid (∀ V, Below wr.heap.size wr V → Below W0.heap.size W0 V) := fun V hV => HBL.out.trans (hV.mono HBL.out.size)
            have HAP := Lib.hid (applyAll_any Ak A1 l0 ck l1 c1 hs os wr.heap.size wr HHL.out HL1.out (by omega) (by omega) HRH.out HFO.out ((HO.out.below HBL.out (Nat.le_refl _)).more hB0) HOKH.out (fun o ho => (HOKO.out o ho).up HBL.out hB0) HOW.out (Nat.le_refl _))
            rw [HE1.out] at HAP
            clear hE1 hE2 hE
            go_wp2_with fail
            refine HAP.out.mono ?_
            rintro e w2 ⟨Ax, cx, xs, rfl, hk2, hf2, hc2, hb2⟩
            have HK2 := Lib.hid (hk2.trans HE2.out)
            have HF2 := Lib.hid hf2
            have HB2 := Lib.hid hb2
            have HU2 := Lib.hid (HUP.out w2 hb2)
            clear hk2 hf2 hc2 hb2 HAP
            have HAP := Lib.hid (refApply_any A0 A1 l0 c0 l1 c1 fs os W0.heap.size w2 HL.out HL1.out (by omega) (by omega) HR.out (HF.out.below HU2.out (Nat.le_refl _)) (HO.out.below HU2.out (Nat.le_refl _)) (fun o ho => (HOKO.out o ho).up HU2.out (Nat.le_refl _)) HOW.out HU2.out.size)
            rw [HE.out] at HAP
            go_wp2_with fail
            refine HAP.out.mono ?_
            rintro e w3 ⟨Ay, cy, ys, rfl, hk3, hf3, hb3⟩
            have HK3 := Lib.hid hk3
            have HF3 := Lib.hid hf3
            have HB3 := Lib.hid hb3
            have HW3 := Lib.hid (HB2.out.trans (hb3.mono HB2.out.size))
            have HU3 := Lib.hid (HUP.out w3 HW3.out)
            clear hk3 hf3 hb3 HAP
            have HAP := Lib.hid (back38_any Ak A1 l0 ck l1 c1 hs os wr.heap.size w3 HHL.out HL1.out (by omega) (by omega) hck HRH.out (HFO.out.below HW3.out (Nat.le_refl _)) ((HO.out.below HU3.out (Nat.le_refl _)).more hB0) (fun f hf => (HOKH.out f hf).up HW3.out (Nat.le_refl _)) (fun o ho => (HOKO.out o ho).up HU3.out hB0) HOW.out HW3.out.size)
            rw [HE1.out] at HAP
            go_wp2_with fail
            refine HAP.out.mono ?_
            rintro e w4 ⟨Ab, cb, bs, rfl, hk4, hf4, hb4⟩
            have HK4 := Lib.hid hk4
            have HF4 := Lib.hid hf4
            have HB4 := Lib.hid hb4
            have HW4 := Lib.hid (HW3.out.trans (hb4.mono HW3.out.size))
            have HU4 := Lib.hid (HUP.out w4 HW4.out)
            clear hk4 hf4 hb4 HAP
            have hxl : xs.length ≤ 1000000 := by
              have h1 := congrArg List.length HK2.out
              rw [List.length_map, List.length_map] at h1
              have := applyAll_len os HR.out
              have := HL.out
              have := HL1.out
              omega
            have HX4 := Lib.hid ((HF2.out.below (HB3.out.trans (HB4.out.mono HB3.out.size)) (Nat.le_refl _)).more (Nat.le_trans HB3.out.size HB4.out.size))
            have HY4 := Lib.hid ((HF3.out.below HB4.out (Nat.le_refl _)).more HB4.out.size)
            have HSM := Lib.hid (refSame25_any Ax xs.length cx Ay ys.length cy xs ys w4.heap.size w4 rfl rfl hxl HX4.out HY4.out)
            rw [eqF_yes (HK2.out.trans HK3.out.symm)] at HSM
            go_wp2_with fail
            refine HSM.out.mono ?_
            rintro e w5 ⟨rfl, n5, hw5⟩
            have HB5' : Hid (Below w4.heap.size w4 w5) := by show Below _ _ _; rw [← hw5]; exact Below.drewN (Below.refl _ _) _
            clear hw5 HSM
            have HW5 := Lib.hid (HW4.out.trans (HB5'.out.mono HW4.out.size))
            have HU5 := Lib.hid (HUP.out w5 HW5.out)
            have HSM := Lib.hid (refSame25_any Ak l0 ck A0 l0 c0 hs fs wr.heap.size w5 HHL.out HL.out (by omega) (HFO.out.below HW5.out (Nat.le_refl _)) ((HF.out.below HU5.out (Nat.le_refl _)).more hB0))
            rw [eqF_yes HKEY.out] at HSM
            go_wp2_with fail
            refine HSM.out.mono ?_
            rintro e w6 ⟨rfl, n6, hw6⟩
            have HB6' : Hid (Below w5.heap.size w5 w6) := by show Below _ _ _; rw [← hw6]; exact Below.drewN (Below.refl _ _) _
            clear hw6 HSM
            have HW6 := Lib.hid (HW5.out.trans (HB6'.out.mono HW5.out.size))
            have HU6 := Lib.hid (HUP.out w6 HW6.out)
            by_cases hE0 : E = 0
            · subst hE0
              have HBK : Hid (backL hs os = diffL (ys.map Fi.key) (fs.map Fi.key)) := by show _ = _; unfold backL; rw [if_pos HE1.out, HE2.out, HKEY.out, HK3.out]
              have HRY : Hid (Ris Fi.nm ys) := ris_of_key HK3.out (applyAll_ris os HR.out)
              have hyl : ys.length ≤ 1000 := by
                have h1 := congrArg List.length HK3.out
                rw [List.length_map, List.length_map] at h1
                have := applyAll_len os HR.out
                have := HL.out
                have := HL1.out
                omega
              have HY6 := Lib.hid ((HY4.out.below (HB5'.out.trans (HB6'.out.mono HB5'.out.size)) (Nat.le_refl _)).more (Nat.le_trans HB5'.out.size HB6'.out.size))
              have HDF := Lib.hid (refDiff_any Ay A0 ys.length cy l0 c0 ys fs w6.heap.size w6 rfl HL.out hyl (by omega) HRY.out HR.out HY6.out ((HF.out.below HU6.out (Nat.le_refl _)).more HU6.out.size) (Nat.le_refl _))
              go_wp2_with fail
              refine HDF.out.mono ?_
              rintro e w7 ⟨Ad, cd, ds, rfl, hk7, hf7, hb7⟩
              have hpo : bs.map OL.po = ds.map OL.po := (HK4.out.trans HBK.out).trans hk7.symm
              have HB7 := Lib.hid hb7
              have HU7 := Lib.hid (HU6.out.trans (hb7.mono HU6.out.size))
              have HF47 : Hid (Ops w7 w7.heap.size Ab bs) := by
                have hb47 : Below w4.heap.size w4 w7 := (HB5'.out.trans (HB6'.out.mono HB5'.out.size)).trans (hb7.mono (Nat.le_trans HB5'.out.size HB6'.out.size))
                exact ⟨(HF4.out.row.below hb47 (Nat.le_refl _)).more hb47.size, fun o ho => ⟨((HF4.out.each o ho).1.below hb47 (Nat.le_refl _)).more hb47.size, (HF4.out.each o ho).2⟩⟩
              have HF7 := Lib.hid hf7
              have hll : ds.length = bs.length := by have h1 := congrArg List.length hpo; rw [List.length_map, List.length_map] at h1; exact h1.symm
              have hlen : bs.length ≤ 1000000 := by
                have h1 := congrArg List.length (HK4.out.trans HBK.out)
                rw [List.length_map] at h1
                rw [h1]
                refine Nat.le_trans (diffL_len _ _) ?_
                rw [List.length_map, List.length_map]
                have := HL.out
                omega
              have HSM := Lib.hid (refSame38_any Ab cb Ad cd bs.length bs ds w7.heap.size w7 rfl hlen hpo HF47.out HF7.out)
              rw [hll]
              clear hpo hll hlen hk7 hf7 hb7 HDF
              go_wp2_with fail
              refine HSM.out.mono ?_
              rintro e w8 ⟨rfl, n8, hw8⟩
              have HU8 : Hid (Below W0.heap.size W0 w8) := by show Below _ _ _; rw [← hw8]; exact Below.drewN HU7.out _
              clear hw8 HSM
              go_wp2_with fail
              refine (HLV.out _ HU8.out).mono ?_
              rintro e wL ⟨rfl, hbL⟩
              go_wp2
              go_ret
              exact ⟨rfl, hbL⟩
            · have tE : (E == 0) = false := by simpa using hE0
              have hx0 : xs = [] := by
                have h1 := HK2.out
                rw [applyAll_no os fs (by rw [HE.out]; exact hE0), List.map_nil, List.map_eq_nil_iff] at h1
                exact h1
              have hb0 : bs = [] := by
                have h1 := HK4.out
                unfold backL at h1
                rw [if_neg (by rw [HE1.out]; exact hE0), List.map_eq_nil_iff] at h1
                exact h1
              subst hx0 hb0
              go_wp2_with fail
              refine (HLV.out _ HU6.out).mono ?_
              rintro e wL ⟨rfl, hbL⟩
              go_wp2
              go_ret
              exact ⟨rfl, hbL⟩
end Go.Proofs.YtfnkbpcimbldbaaDoor
