/- Layer 5: Crash. -/
import Derived.Test.YtbfaefnlhcdnhaaNdE
namespace Go.Proofs.Ytbfaefnlhcdnhaa
open Go.RowKit Go.Maps

theorem fresh_map {W0 V : World} {d b : Nat} {F : Nat → Prop} {bn bs : Option Nat} {Aw : Option Addr} {cw : Nat} {now safe : List Nt} {ws : List Ch} (hD : DirB W0 d F bn bs Aw cw now safe ws) (hb : W0.heap.size = b)
    (hV : (W0.alloc (.map #[] 0)).setCell ⟨d, 0, none⟩ (.map (some b)) = V) : DirB V d (fun k => F k ∨ k = b) (some b) bs Aw cw [] safe ws ∧ Mod (oneB d) W0 V := by
  have hmA : Mod noB W0 (W0.alloc (.map #[] 0)) := (Mod.refl _ W0).alloc _
  have hmS : Mod (oneB d) (W0.alloc (.map #[] 0)) V := by rw [← hV]; exact (Mod.refl _ _).set ⟨d, 0, none⟩ _ (.inl rfl)
  have hDA := hD.keep hmA (fun _ _ h => h)
  have hneb : ∀ k, F k → k ≠ b := fun k hk e => by have := hD.lt k hk; omega
  have hmap : MapN (W0.alloc (.map #[] 0)) b [] := by rw [← hb]; exact World.ownsMap_made W0 _ _ _
  refine ⟨⟨?_, .inr ⟨b, rfl, hmap.keep hmS (fun e => map_ne_box hmap hDA.box e)⟩, hDA.safe.keep hmS (fun b' hb' e => ?_), own_keep hDA.row hmS (fun k hk e => ?_), .inl hDA.fd, fun b' hb' => .inr (by injection hb' with h; exact h.symm), fun b' hb' => .inl (hDA.fs b' hb'), fun b' hb' => .inl (hDA.fw b' hb'), fun b' hb' hs => ?_, ?_⟩, (hmA.mono (T := oneB d) (fun _ h => h.elim)).then_ hmS⟩
  · rw [← hV]; exact heap_setCell_same _ d 0 _ _ _ hDA.box
  · rcases hDA.safe with ⟨h1, _⟩ | ⟨b2, h1, h2⟩
    · rw [h1] at hb'; cases hb'
    · rw [h1] at hb'
      injection hb' with hb'
      subst hb'
      exact map_ne_box h2 hDA.box e
  · have e2 : k = d := e
    subst e2
    exact own_ne hDA.row hDA.box (by decide) hk
  · injection hb' with hb'
    exact hneb b' (hDA.fs b' hs) hb'.symm
  · rintro k (hk | hk)
    · exact Nat.lt_of_lt_of_le (hDA.lt k hk) hmS.size
    · have := hmS.size; rw [World.size_alloc] at this; omega
theorem turn_map {V w2 : World} {d b : Nat} {F : Nat → Prop} {bs : Option Nat} {Aw : Option Addr} {cw : Nat} {now now' safe : List Nt} {ws : List Ch} (hD : DirB V d F (some b) bs Aw cw now safe ws) (hg : V.grownBy w2 (some b)) (hm : MapN w2 b now') :
    DirB w2 d F (some b) bs Aw cw now' safe ws ∧ Mod (oneB b) V w2 := by
  have hmB : Mod (oneB b) V w2 := ⟨hg.os, hg.tape, hg.output, hg.size, fun k hk hn => hg.block k hk (fun e => hn (by injection e))⟩
  have hmV : MapN V b now := by
    rcases hD.now with ⟨h1, _⟩ | ⟨b', h1, h2⟩
    · cases h1
    · injection h1 with h1
      subst h1
      exact h2
  refine ⟨⟨hmB.keep hD.box (fun e => map_ne_box hmV hD.box (show b = d from (show d = b from e).symm)), .inr ⟨b, rfl, hm⟩, hD.safe.keep hmB (fun b' hb' e => ?_), own_keep hD.row hmB (fun k hk e => ?_), hD.fd, hD.fn, hD.fs, hD.fw, hD.ne, fun k hk => Nat.lt_of_lt_of_le (hD.lt k hk) hg.size⟩, hmB⟩
  · have e2 : b' = b := e
    subst e2
    exact hD.ne _ rfl hb'
  · have e2 : k = b := e
    subst e2
    exact row_ne_map hD.row hmV hk
theorem cells_of_ownD {w : World} {base : Nat} {e : TypeId} {size : Nat} {A : Option Addr} {n c : Nat} {xs : List Value} (h : w.ownsRow base e size (.slice A n c) n xs) : Cells w w.heap.size A xs := fun hp => by
  obtain ⟨hlen, hor⟩ := h
  rcases hor with ⟨h1, h2⟩ | ⟨g, cap, cur, hv, _, hg, _, _, hcells⟩
  · subst h2; rw [Nat.zero_mul] at hlen; omega
  · injection hv with ha _ _
    refine ⟨g, 0, ha, (Array.getElem?_eq_some_iff.1 hg).1, fun j u hj => ?_⟩
    rw [Nat.zero_add, cell_of_row w g j _ _ _ hg]
    obtain ⟨_, ht⟩ := hcells
    rw [← ht, List.getElem?_take] at hj
    split at hj
    · rw [← Array.getElem?_toList]; exact hj
    · cases hj
set_option maxRecDepth 100000 in
set_option maxHeartbeats 1000000 in
theorem crash5_any (d : Nat) (F : Nat → Prop) (now safe : List Nt) (ws : List Ch) (n : Int) (w : World) (h : DirS w d F now safe ws) (hr : Ris Nt.nm safe) (hsl : safe.length ≤ 100000) (hwl : ws.length ≤ 1000) (hws : ∀ c ∈ ws, c.fr.size ≤ 1000 ∧ c.to.size ≤ 1000 ∧ (Lit.int .i64 c.id).wf = true) :
    Calls Try.prog 13 #[.pointer (some ⟨d, 0, none⟩), .int .i64 n] w fun e w' => e = .returned (.tuple #[]) ∧ ∃ F', DirS w' d F' (doN safe (ws.take n.toNat)) (doN safe (ws.take n.toNat)) [] ∧ StepF F F' w w' := by
  obtain ⟨bn, bs, Aw, cw, hD⟩ := h
  have HD := Lib.hid hD
  have HR := Lib.hid hr
  have HWS := Lib.hid hws
  obtain ⟨b, hb⟩ : ∃ b, w.heap.size = b := ⟨_, rfl⟩
  obtain ⟨V, hV⟩ : ∃ V, (w.alloc (.map #[] 0)).setCell ⟨d, 0, none⟩ (.map (some b)) = V := ⟨_, rfl⟩
  obtain ⟨hDV, hMV⟩ := fresh_map hD hb hV
  have HDV := Lib.hid hDV
  have HMV := Lib.hid hMV
  have HBW := Lib.hid hb
  have hDA := (hD.keep ((Mod.refl noB w).alloc (.map #[] 0)) (fun _ _ h => h)).cells
  obtain ⟨c0, c1, c2, f0, f1, f2⟩ := hDA
  have hmm := @run_makeMap Try.prog
  have hmb : MapN V b [] := by
    rcases hDV.now with ⟨h1, _⟩ | ⟨b', h1, h2⟩
    · cases h1
    · injection h1 with h1
      subst h1
      exact h2
  have hsrc : ∃ Ds, SrcOf Try.prog 9 (plainElem (H := Unit) Try.prog 3) V bs Ds ∧ Maps.size Ds ≤ 100000 ∧ ∀ (W : World) (n : Nat), W.ownsMap Try.prog 9 (plainElem (H := Unit) Try.prog 3) b n (Lib.mergeD (.map []) Ds) → MapN W b safe := by
    rcases hDV.safe with ⟨h1, h2⟩ | ⟨b', h1, h2⟩
    · refine ⟨.nil, .inl ⟨h1, rfl⟩, Nat.zero_le _, fun W n h => ?_⟩
      rw [h2]
      exact MapIn.tight (show MapIn W b n [] from h)
    · refine ⟨dirD safe, .inr ⟨b', _, h1, h2⟩, by rw [size_dirD]; exact hsl, fun W n h => ?_⟩
      have e := merge_dirD hr (h.canon strLaw)
      rw [e] at h
      exact MapIn.tight (show MapIn W b n safe from h)
  obtain ⟨Ds, hsrc, hdl, hfin⟩ := hsrc
  have HFIN := Lib.hid hfin
  have HCP := Lib.hid (AnyX.maps_Copy_opt Try.copy28 strLaw _ b 0 bs (.map []) Ds V.drew (World.ownsMap.drew hmb) hsrc (fun e => hDV.ne b rfl e) (by unfold maxLen; omega))
  obtain ⟨v0, v1, v2, _, _, _⟩ := hDV.cells
  clear hD hr hws hDV hMV hmb hsrc hdl hfin
  go_enter Try.func13, Try.ntmps13
  go_wp2_with fail
  clear c0 c1 c2 f0 f1 f2 hmm hV hb
  have mixed : Try.prog.follows Departure.mixedOrders = true := by kernel_rfl
  go_region_with (go_at_call 28; refine HCP.out.mono ?_; rintro e w2 ⟨rfl, ho, hg⟩; have HM2 := Lib.hid (HFIN.out _ _ ho); have HG2 : Hid (V.grownBy w2 (some b)) := ⟨hg.os, hg.tape, hg.output, hg.size, hg.block⟩; clear ho hg)
  all_goals
    clear v0 v1 v2
    obtain ⟨hD2, hM2⟩ := turn_map HDV.out HG2.out HM2.out
    have HD2 := Lib.hid hD2
    have HMB2 := Lib.hid hM2
    obtain ⟨v0, v1, v2, _, _, _⟩ := hD2.cells
    have HDO := Lib.hid (do_any b safe Aw ws.length cw ws n w2.heap.size w2.drew (World.ownsMap.drew HM2.out) HR.out rfl hwl hsl (cells_of_ownD hD2.row) HWS.out)
    clear hD2 hM2
    go_wp2
    go_region_with (go_at_call 29; refine HDO.out.mono ?_; rintro e w3 ⟨rfl, hm, hg⟩; have HM3 := Lib.hid hm; have HG3 : Hid (w2.grownBy w3 (some b)) := ⟨hg.os, hg.tape, hg.output, hg.size, hg.block⟩; clear hm hg)
    all_goals
      clear v0 v1 v2
      obtain ⟨hD3, hM3⟩ := turn_map HD2.out HG3.out HM3.out
      have HMB3 := Lib.hid hM3
      have HSY := Lib.hid (sync5_any d _ _ _ _ w3 ⟨_, _, _, _, hD3⟩)
      clear hD3 hM3
      go_wp2_with (go_at_call 12; refine HSY.out.mono ?_; rintro e w4 ⟨rfl, F', hd, hst⟩; have HD4 := Lib.hid hd; have HS4 := Lib.hid hst; clear hd hst)
      first | refine bodyPost_end (results_none rfl _ _ _) rfl ?_ | (rw [Exit.noGoto_normal]; refine bodyPost_end (results_none rfl _ _ _) rfl ?_)
      refine ⟨rfl, F', HD4.out, ?_⟩
      have hbw := HBW.out
      have h1 : Mod F w V := HMV.out.mono (fun k hk => by have e : k = d := hk; subst e; exact HD.out.fd)
      have h3 : Mod (oneB b) V w3 := HMB2.out.then_ HMB3.out
      have h13 : Mod F w w3 := h1.trans h3 (fun k hk => .inr (by have e : k = b := hk; omega))
      refine ⟨h13.trans HS4.out.mod (fun k hk => ?_), fun k hk => ?_⟩
      · rcases hk with hk | hk
        · exact .inl hk
        · exact .inr (by omega)
      · rcases HS4.out.new k hk with (hk | hk) | hk
        · exact .inl hk
        · exact .inr (by omega)
        · exact .inr (Nat.le_trans h13.size hk)
end Go.Proofs.Ytbfaefnlhcdnhaa
