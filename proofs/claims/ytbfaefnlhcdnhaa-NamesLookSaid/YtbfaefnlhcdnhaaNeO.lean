/- Layer 5: the reference's Create, Rename, Remove, Crash. -/
import Derived.Test.YtbfaefnlhcdnhaaNeD
namespace Go.Proofs.Ytbfaefnlhcdnhaa
open Go.RowKit Go.Maps

theorem named5_any (s : ByteArray) (w : World) : Calls Try.prog 22 #[.string s] w fun e w' => e = .returned (.bool (rightN s)) ∧ w = w' := by
  unfold rightN
  by_cases h : 0 < s.size
  · have h1 : (0 : Int) < (s.size : Int) := by omega
    by_cases h2 : s.size ≤ 100
    · have h3 : (s.size : Int) < 101 := by omega
      rw [decide_eq_true h, decide_eq_true h2]
      go_enter Try.func22, Try.ntmps22
      go_wp2
      go_ret
      exact ⟨rfl, rfl⟩
    · have h3 : ¬ (s.size : Int) < 101 := by omega
      rw [decide_eq_true h, decide_eq_false h2]
      go_enter Try.func22, Try.ntmps22
      go_wp2
      go_ret
      exact ⟨rfl, rfl⟩
  · have h1 : ¬ (0 : Int) < (s.size : Int) := by omega
    rw [decide_eq_false h]
    go_enter Try.func22, Try.ntmps22
    go_wp2
    go_ret
    exact ⟨rfl, rfl⟩
def chL (e : Int) (now l : List Nt) : List Nt := if e = 0 then l else now
def chP (e : Int) (now : List Nt) (past : List (List Nt)) : List (List Nt) := if e = 0 then past ++ [now] else past
theorem findN_has {l : List Nt} {s : ByteArray} (h : hasK Nt.nm l s = true) : findN l s = (posK Nt.nm l s : Int) := by unfold findN; rw [if_pos h]
theorem findN_not {l : List Nt} {s : ByteArray} (h : hasK Nt.nm l s = false) : findN l s = -1 := by unfold findN; rw [if_neg (by rw [h]; decide)]
theorem idAt_pos {l : List Nt} (hr : Ris Nt.nm l) {s : ByteArray} {e : Nt} (h : l[posK Nt.nm l s]? = some e) (hn : e.nm = s) : idAt l s = e.id := by
  unfold idAt
  rw [← hn, find_mem hr (List.mem_of_getElem? h)]
/-- A step of the reference: 'turn' behind blocks of the call's own. -/
theorem step_turn {w w1 w2 : World} {G G' : Nat → Prop} {v : Value} (hb : Below w.heap.size w w1) (hm : Mod G w1 w2) (hn : ∀ k, G' k → G k ∨ ownS v k ∨ w1.heap.size ≤ k) (hv : ∀ k, ownS v k → w.heap.size ≤ k) : StepF G G' w w2 := by
  refine ⟨((Mod.of_below hb).mono (T := G) (fun _ h => h.elim)).trans hm (fun k hk => .inl hk), fun k hk => ?_⟩
  rcases hn k hk with h | h | h
  · exact .inl h
  · exact .inr (hv k h)
  · exact .inr (Nat.le_trans hb.size h)
set_option maxRecDepth 100000 in
set_option maxHeartbeats 1000000 in
theorem rcreate5_any (r : Nat) (G : Nat → Prop) (now : List Nt) (past : List (List Nt)) (s : ByteArray) (i : Int) (w : World) (h : RefS w r G now past) (hr : Ris Nt.nm now) (hp : past.length ≤ 1000) (hnow : now.length ≤ 100000) :
    Calls Try.prog 23 #[.pointer (some ⟨r, 0, none⟩), .string s, .int .i64 i] w fun e w' => e = .returned (.int .i64 (crE now s)) ∧ ∃ G', RefS w' r G' (chL (crE now s) now (withK Nt.nm now ⟨s, i⟩)) (chP (crE now s) now past) ∧ StepF G G' w w' := by
  have h0 := Lib.hid h
  obtain ⟨An, cn, Ap, cp, pv, hB⟩ := h
  have HB := Lib.hid hB
  obtain ⟨c0, c1, f0, f1⟩ := hB.cells
  have HNC := Lib.hid (cells_of_ownD hB.nw)
  have HFD := Lib.hid (refFind5_any An now.length cn now s w.heap.size w rfl (by omega) hr HNC.out)
  have HRI := Lib.hid hr
  clear hB
  have HNM := Lib.hid (named5_any s w)
  have HWI := Lib.hid (refWith5_any An now.length cn now ⟨s, i⟩ w.heap.size w rfl hnow hr HNC.out (Nat.le_refl _))
  cases hq : rightN s with
  | false =>
    have HE : Hid (crE now s = 6) := by show _ = _; unfold crE; rw [hq]; rfl
    rw [hq] at HNM
    clear hr hq
    rw [HE.out]
    go_enter Try.func23, Try.ntmps23
    go_wp2_with (go_at_call 22; refine HNM.out.mono ?_; rintro e w' ⟨rfl, hw⟩; subst hw)
    go_ret
    exact ⟨rfl, G, h0.out, StepF.refl w⟩
  | true =>
    rw [hq] at HNM
    cases hk : hasK Nt.nm now s with
    | true =>
      have HE : Hid (crE now s = 16) := by show _ = _; unfold crE; rw [hq, hk]; rfl
      rw [findN_has hk] at HFD
      clear hr hq hk
      rw [HE.out]
      go_enter Try.func23, Try.ntmps23
      go_wp2_with (first | (go_at_call 22; refine HNM.out.mono ?_; rintro e w' ⟨rfl, hw⟩; subst hw) | (go_at_call 20; refine HFD.out.mono ?_; rintro e w' ⟨rfl, hw⟩; subst hw))
      go_ret
      exact ⟨rfl, G, h0.out, StepF.refl w⟩
    | false =>
      rw [findN_not hk] at HFD
      by_cases hn : 16 ≤ now.length
      · have HE : Hid (crE now s = 14) := by show _ = _; unfold crE; rw [hq, hk]; simp [hn]
        have hni : (16 : Int) ≤ (now.length : Int) := by omega
        clear hr hq hk
        rw [HE.out]
        go_enter Try.func23, Try.ntmps23
        go_wp2_with (first | (go_at_call 22; refine HNM.out.mono ?_; rintro e w' ⟨rfl, hw⟩; subst hw) | (go_at_call 20; refine HFD.out.mono ?_; rintro e w' ⟨rfl, hw⟩; subst hw))
        go_ret
        exact ⟨rfl, G, h0.out, StepF.refl w⟩
      · have HE : Hid (crE now s = 0) := by show _ = _; unfold crE; rw [hq, hk]; simp [hn]
        have hni : ¬ (16 : Int) ≤ (now.length : Int) := by omega
        clear hr hq hk
        rw [HE.out]
        go_enter Try.func23, Try.ntmps23
        go_wp2_with (first
          | (go_at_call 22; refine HNM.out.mono ?_; rintro e w' ⟨rfl, hw⟩; subst hw)
          | (go_at_call 20; refine HFD.out.mono ?_; rintro e w' ⟨rfl, hw⟩; subst hw)
          | (go_at_call 36; refine HWI.out.mono ?_; rintro e w1 ⟨A1, c1', rfl, ho1, hb1⟩; have HO1 := Lib.hid ho1; have HB1 := Lib.hid hb1; clear ho1 hb1)
          | (go_at_call 35; refine (turn5_any r G An cn Ap cp now (withK Nt.nm now ⟨s, i⟩) past pv A1 c1' w1 (HB.out.keep (Mod.of_below HB1.out) (fun _ _ h => h)) (own_lowN HO1.out (Nat.zero_le _)) hp).mono ?_; rintro e w2 ⟨rfl, G', hg, hm, hn⟩; have HG := Lib.hid hg; have HMD := Lib.hid hm; have HNW := Lib.hid hn; clear hg hm hn))
        go_ret
        exact ⟨rfl, G', HG.out, step_turn HB1.out HMD.out HNW.out (fun k hk => (HO1.out.lt k hk).1)⟩
set_option maxRecDepth 100000 in
set_option maxHeartbeats 1000000 in
theorem rremove5_any (r : Nat) (G : Nat → Prop) (now : List Nt) (past : List (List Nt)) (a : ByteArray) (w : World) (h : RefS w r G now past) (hr : Ris Nt.nm now) (hp : past.length ≤ 1000) (hnow : now.length ≤ 100000) :
    Calls Try.prog 25 #[.pointer (some ⟨r, 0, none⟩), .string a] w fun e w' => e = .returned (.int .i64 (rmE now a)) ∧ ∃ G', RefS w' r G' (chL (rmE now a) now (outK Nt.nm now a)) (chP (rmE now a) now past) ∧ StepF G G' w w' := by
  have h0 := Lib.hid h
  obtain ⟨An, cn, Ap, cp, pv, hB⟩ := h
  have HB := Lib.hid hB
  obtain ⟨c0, c1, f0, f1⟩ := hB.cells
  have HNC := Lib.hid (cells_of_ownD hB.nw)
  have HFD := Lib.hid (refFind5_any An now.length cn now a w.heap.size w rfl (by omega) hr HNC.out)
  have HRI := Lib.hid hr
  clear hB
  have HWO := Lib.hid (refWithout5_any An now.length cn now a w.heap.size w rfl (by omega) HNC.out (Nat.le_refl _))
  cases hk : hasK Nt.nm now a with
  | false =>
    have HE : Hid (rmE now a = 7) := by show _ = _; unfold rmE; rw [hk]; rfl
    rw [findN_not hk] at HFD
    clear hr hk
    rw [HE.out]
    go_enter Try.func25, Try.ntmps25
    go_wp2_with (go_at_call 20; refine HFD.out.mono ?_; rintro e w' ⟨rfl, hw⟩; subst hw)
    go_ret
    exact ⟨rfl, G, h0.out, StepF.refl w⟩
  | true =>
    have HE : Hid (rmE now a = 0) := by show _ = _; unfold rmE; rw [hk]; rfl
    rw [findN_has hk] at HFD
    have hpi : ¬ ((posK Nt.nm now a : Nat) : Int) < 0 := by omega
    clear hr hk
    rw [HE.out]
    go_enter Try.func25, Try.ntmps25
    go_wp2_with (first
      | (go_at_call 20; refine HFD.out.mono ?_; rintro e w' ⟨rfl, hw⟩; subst hw)
      | (go_at_call 37; refine HWO.out.mono ?_; rintro e w1 ⟨A1, c1', rfl, ho1, hb1⟩; have HO1 := Lib.hid ho1; have HB1 := Lib.hid hb1; clear ho1 hb1)
      | (go_at_call 35; refine (turn5_any r G An cn Ap cp now (outK Nt.nm now a) past pv A1 c1' w1 (HB.out.keep (Mod.of_below HB1.out) (fun _ _ h => h)) (own_lowN HO1.out (Nat.zero_le _)) hp).mono ?_; rintro e w2 ⟨rfl, G', hg, hm, hn⟩; have HG := Lib.hid hg; have HMD := Lib.hid hm; have HNW := Lib.hid hn; clear hg hm hn))
    go_ret
    exact ⟨rfl, G', HG.out, step_turn HB1.out HMD.out HNW.out (fun k hk => (HO1.out.lt k hk).1)⟩
set_option maxRecDepth 100000 in
set_option maxHeartbeats 1000000 in
theorem rrename5_any (r : Nat) (G : Nat → Prop) (now : List Nt) (past : List (List Nt)) (a b0 : ByteArray) (w : World) (h : RefS w r G now past) (hr : Ris Nt.nm now) (hp : past.length ≤ 1000) (hnow : now.length ≤ 100000) :
    Calls Try.prog 24 #[.pointer (some ⟨r, 0, none⟩), .string a, .string b0] w fun e w' => e = .returned (.int .i64 (rnE now a b0)) ∧ ∃ G', RefS w' r G' (chL (rnE now a b0) now (withK Nt.nm (outK Nt.nm now a) ⟨b0, idAt now a⟩)) (chP (rnE now a b0) now past) ∧ StepF G G' w w' := by
  have h0 := Lib.hid h
  obtain ⟨An, cn, Ap, cp, pv, hB⟩ := h
  have HB := Lib.hid hB
  obtain ⟨c0, c1, f0, f1⟩ := hB.cells
  have HNC := Lib.hid (cells_of_ownD hB.nw)
  have HFD := Lib.hid (refFind5_any An now.length cn now a w.heap.size w rfl (by omega) hr HNC.out)
  have HRI := Lib.hid hr
  clear hB
  have HNM := Lib.hid (named5_any b0 w)
  cases hq : rightN b0 with
  | false =>
    have HE : Hid (rnE now a b0 = 6) := by show _ = _; unfold rnE; rw [hq]; rfl
    rw [hq] at HNM
    clear hr hq
    rw [HE.out]
    go_enter Try.func24, Try.ntmps24
    go_wp2_with (go_at_call 22; refine HNM.out.mono ?_; rintro e w' ⟨rfl, hw⟩; subst hw)
    go_ret
    exact ⟨rfl, G, h0.out, StepF.refl w⟩
  | true =>
    rw [hq] at HNM
    cases hk : hasK Nt.nm now a with
    | false =>
      have HE : Hid (rnE now a b0 = 7) := by show _ = _; unfold rnE; rw [hq, hk]; rfl
      rw [findN_not hk] at HFD
      clear hr hq hk
      rw [HE.out]
      go_enter Try.func24, Try.ntmps24
      go_wp2_with (first | (go_at_call 22; refine HNM.out.mono ?_; rintro e w' ⟨rfl, hw⟩; subst hw) | (go_at_call 20; refine HFD.out.mono ?_; rintro e w' ⟨rfl, hw⟩; subst hw))
      go_ret
      exact ⟨rfl, G, h0.out, StepF.refl w⟩
    | true =>
      have HE : Hid (rnE now a b0 = 0) := by show _ = _; unfold rnE; rw [hq, hk]; rfl
      rw [findN_has hk] at HFD
      obtain ⟨y, hy, hyn⟩ := hasK_there hr hk
      have hid := idAt_pos hr hy hyn
      obtain ⟨p, hpp⟩ : ∃ p, posK Nt.nm now a = p := ⟨_, rfl⟩
      rw [hpp] at hy HFD
      have hpl := (List.getElem?_eq_some_iff.1 hy).1
      have hpi : ¬ (p : Int) < 0 := by omega
      have hpi2 : (p : Int) < (now.length : Int) := by omega
      obtain ⟨b, o, rfl, hbB, hc⟩ := HNC.out (by rw [nt_len]; omega)
      have HMT : Hid (∀ W, Below w.heap.size w W → W.cell? ⟨b, o + p * 2 + 1, none⟩ = some (.int .i64 y.id)) := fun W hW => (nt_at (fun j u hj => (hW.cell (p := ⟨b, o + j, none⟩) hbB).trans (hc j u hj)) hy).2
      have HRC : Hid (∀ W, Below w.heap.size w W → W.cell? ⟨r, 0, none⟩ = some (.slice (some ⟨b, o, none⟩) now.length cn)) := fun W hW => (hW.cell (p := ⟨r, 0, none⟩) (HB.out.lt r HB.out.fr)).trans HB.out.cells.1
      obtain ⟨e1⟩ : ∃ _ : Unit, True := ⟨(), trivial⟩
      have d1 := HMT.out w (Below.refl _ _)
      have HWO := Lib.hid (refWithout5_any (some ⟨b, o, none⟩) now.length cn now a w.heap.size w.drew rfl (by omega) (show Cells w.drew _ _ _ from HNC.out) (Nat.le_refl _))
      have hol := out_len now a
      have HRO : Hid (Ris Nt.nm (outK Nt.nm now a)) := hr.outK a
      have HWI : Hid (∀ (A c) (W : World), Cells W W.heap.size A (ntCells (outK Nt.nm now a)) → Calls Try.prog 36 #[.slice A (outK Nt.nm now a).length c, .string b0, .int .i64 y.id] W fun e w' => ∃ A' c', e = .returned (.slice A' (withK Nt.nm (outK Nt.nm now a) ⟨b0, y.id⟩).length c') ∧ w'.ownsRow W.heap.size 52 2 (.slice A' (withK Nt.nm (outK Nt.nm now a) ⟨b0, y.id⟩).length c') (withK Nt.nm (outK Nt.nm now a) ⟨b0, y.id⟩).length (ntCells (withK Nt.nm (outK Nt.nm now a) ⟨b0, y.id⟩)) ∧ Below W.heap.size W w') := fun A c W hW => refWith5_any A _ c _ ⟨b0, y.id⟩ W.heap.size W rfl (by omega) HRO.out hW (Nat.le_refl _)
      have mixed : Try.prog.follows Departure.mixedOrders = true := by kernel_rfl
      rw [HE.out, hid]
      clear hr hq hk hc hy hyn hid hpp e1
      go_enter Try.func24, Try.ntmps24
      go_wp2_with (first | (go_at_call 22; refine HNM.out.mono ?_; rintro e w' ⟨rfl, hw⟩; subst hw) | (go_at_call 20; refine HFD.out.mono ?_; rintro e w' ⟨rfl, hw⟩; subst hw))
      go_region_with (first
        | (go_at_call 37; refine HWO.out.mono ?_; rintro e w1 ⟨A1, c1', rfl, ho1, hb1⟩; have hb1' : Below w.heap.size w w1 := ⟨hb1.os, hb1.tape, hb1.output, hb1.size, hb1.block⟩; have HO1 := Lib.hid ho1; have HB1 := Lib.hid hb1'; have d2 := HMT.out w1 hb1'; have d3 := HRC.out w1 hb1'; have HC1 := Lib.hid (cells_of_ownD ho1); clear ho1 hb1 hb1')
        | (go_at_call 36; refine (HWI.out _ _ w1 HC1.out).mono ?_; rintro e w2 ⟨A2, c2', rfl, ho2, hb2⟩; have HO2 := Lib.hid ho2; have HB2 := Lib.hid (HB1.out.trans (hb2.mono HB1.out.size)); clear ho2 hb2)
        | (go_at_call 35; refine (turn5_any r G (some ⟨b, o, none⟩) cn Ap cp now (withK Nt.nm (outK Nt.nm now a) ⟨b0, y.id⟩) past pv A2 c2' w2 (HB.out.keep (Mod.of_below HB2.out) (fun _ _ h => h)) (own_lowN HO2.out (Nat.zero_le _)) hp).mono ?_; rintro e w3 ⟨rfl, G', hg, hm, hn⟩; have HG := Lib.hid hg; have HMD := Lib.hid hm; have HNW := Lib.hid hn; clear hg hm hn))
      all_goals
        go_wp2
        go_ret
        exact ⟨rfl, G', HG.out, step_turn HB2.out HMD.out HNW.out (fun k hk => Nat.le_trans HB1.out.size (HO2.out.lt k hk).1)⟩
end Go.Proofs.Ytbfaefnlhcdnhaa
