/- Layer 6 (a directory inside a file system): a change is done, and waits. -/
import Derived.Test.YtcfkepahilioaaaFdK
import Derived.Shelf.SlMaps.Clone
namespace Go.Proofs.Ytcfkepahilioaaa
open Go.RowKit Go.Maps
variable {X : FsX}

/-- Behind an append to what waits, the store of it, and the change done on the map. -/
theorem change_end {V w7 w10 : World} {d b : Nat} {F : Nat → Prop} {Aw A4 : Option Addr} {cw c4 : Nat} {bsm : Option Nat} {now safe : List Nt} {ws : List Ch} {f : Ch} {o : Obj} {w : World} {F0 : Nat → Prop}
    (hD : DirB V d X F (some b) bsm Aw cw now safe ws) (hA : App V 0 103 3 (.slice Aw ws.length cw) (ws.length + 1) (chCells ws ++ f.cells) w7 (.slice A4 (ws.length + 1) c4))
    (hM : MapN w10 b (step1 now f)) (hg : ((w7.setCell ⟨d, 3, none⟩ (.slice A4 (ws.length + 1) c4)).alloc o).grownBy w10 (some b)) (h0 : Mod F0 w V) (hF : ∀ k, F k → F0 k ∨ w.heap.size ≤ k) :
    ∃ F', DirS w10 d X F' (step1 now f) safe (ws ++ [f]) ∧ StepF F0 F' w w10 := by
  have hne : ¬ ownS (.slice Aw ws.length cw) d := own_ne hD.row hD.box (by decide)
  have hbox7 := (Mod.of_app hA).keep hD.box hne
  obtain ⟨U, hU⟩ : ∃ U, w7.setCell ⟨d, 3, none⟩ (.slice A4 (ws.length + 1) c4) = U := ⟨_, rfl⟩
  rw [hU] at hg
  have hmU : Mod (oneB d) w7 U := by rw [← hU]; exact (Mod.refl _ w7).set _ _ (.inl rfl)
  have hboxU : U.heap[d]? = some (.cells (fsC X (some b) bsm A4 (ws.length + 1) c4) 71 (0, 0)) := by rw [← hU]; exact heap_setCell_same w7 d 3 _ _ _ hbox7
  have hmB : Mod (oneB b) U w10 := ((Mod.refl (oneB b) U).alloc o).then_ ⟨hg.os, hg.tape, hg.output, hg.size, fun k hk hn => hg.block k hk (fun e => hn (by injection e))⟩
  have hdb : ¬ oneB b d := fun e => by
    have e2 : d = b := e
    subst e2
    rcases hD.now with ⟨h1, _⟩ | ⟨b', h1, es, cl, h2, _⟩
    · cases h1
    · injection h1 with h1
      subst h1
      rw [hD.box] at h2
      cases h2
  have hrow7 : w7.ownsRow 0 103 3 (.slice A4 (ws.length + 1) c4) (ws.length + 1) (chCells (ws ++ [f])) := by rw [chCells_snoc]; exact hA.own
  have hned : ¬ ownS (.slice A4 (ws.length + 1) c4) d := own_ne hrow7 hbox7 (by decide)
  have hrowU := own_keep hrow7 hmU (fun k hk hkd => hned (by have e : k = d := hkd; rw [← e]; exact hk))
  have hnb : ∀ {X : World} {v : Value} {n : Nat} {xs : List Value}, X.ownsRow 0 103 3 v n xs → (∃ l, MapN X b l) → ¬ ownS v b := fun hX ⟨l, es, cl, h2, _⟩ hk => by
    rcases hX.2 with ⟨rfl, _⟩ | ⟨g', cap, cur, rfl, _, hh, _⟩
    · cases hk
    · injection hk with hk
      subst hk
      rw [h2] at hh
      cases hh
  have hmapV : MapN V b now := by
    rcases hD.now with ⟨h1, _⟩ | ⟨b', h1, h2⟩
    · cases h1
    · injection h1 with h1
      subst h1
      exact h2
  have hmap7 : MapN w7 b now := hmapV.keep (Mod.of_app hA) (hnb hD.row ⟨_, hmapV⟩)
  have hmapU : MapN U b now := hmap7.keep hmU (fun e => hdb (show d = b from (show b = d from e).symm))
  have hrow10 := own_keep hrowU hmB (fun k hk hkb => hnb hrowU ⟨_, hmapU⟩ (by have e : k = b := hkb; rw [← e]; exact hk))
  have hsafe7 := hD.safe.keep (Mod.of_app hA) (fun b' hb' hk => by
    rcases hD.safe with ⟨h1, _⟩ | ⟨b2, h1, es, cl, h2, _⟩
    · rw [h1] at hb'; cases hb'
    · rw [h1] at hb'
      injection hb' with hb'
      subst hb'
      rcases hD.row.2 with ⟨h3, _⟩ | ⟨g', cap, cur, h3, _, hh, _⟩
      · rw [h3] at hk; cases hk
      · rw [h3] at hk
        injection hk with hk
        subst hk
        rw [h2] at hh
        cases hh)
  have hsafeU := hsafe7.keep hmU (fun b' hb' hk => by
    have e : b' = d := hk
    subst e
    rcases hsafe7 with ⟨h1, _⟩ | ⟨b2, h1, es, cl, h2, _⟩
    · rw [h1] at hb'; cases hb'
    · rw [h1] at hb'
      injection hb' with hb'
      subst hb'
      rw [hbox7] at h2
      cases h2)
  have hsafe10 := hsafeU.keep hmB (fun b' hb' hk => by
    have e : b' = b := hk
    subst e
    exact hD.ne _ rfl hb')
  have hmod : Mod (fun k => k = d ∨ k = b ∨ ownS (.slice Aw ws.length cw) k) V w10 := ((Mod.of_app hA).mono (fun k hk => .inr (.inr hk))).trans ((hmU.mono (T := fun k => k = d ∨ k = b) (fun k hk => .inl hk)).trans (hmB.mono (T := fun k => k = d ∨ k = b) (fun k hk => .inr hk)) (fun k hk => .inl hk)) (fun k hk => .inl (by rcases hk with hk | hk; exact .inl hk; exact .inr (.inl hk)))
  have hsz : V.heap.size ≤ w10.heap.size := hmod.size
  refine ⟨fun k => F k ∨ ownS (.slice A4 (ws.length + 1) c4) k, ⟨some b, bsm, A4, c4, ?_⟩, ?_⟩
  · refine ⟨?_, .inr ⟨b, rfl, hM⟩, hsafe10, ?_, .inl hD.fd, fun b' hb' => .inl (hD.fn b' hb'), fun b' hb' => .inl (hD.fs b' hb'), fun b' hb' => .inr (by rw [List.length_append] at hb'; exact hb'), hD.ne, ?_⟩
    · rw [List.length_append]
      exact hmB.keep hboxU hdb
    · rw [List.length_append]
      exact hrow10
    · rintro k (hk | hk)
      · exact Nat.lt_of_lt_of_le (hD.lt k hk) hsz
      · exact (hrow10.lt k hk).2
  · refine ⟨h0.trans hmod (fun k hk => ?_), ?_⟩
    · rcases hk with rfl | rfl | hk
      · exact hF _ hD.fd
      · exact hF _ (hD.fn _ rfl)
      · exact hF _ (hD.fw _ hk)
    · rintro k (hk | hk)
      · exact hF k hk
      · rcases App.place hA k hk with h1 | h1
        · exact hF k (hD.fw k h1)
        · exact .inr (Nat.le_trans h0.size h1)
theorem change_mid {V w7 : World} {d b : Nat} {F : Nat → Prop} {Aw A4 : Option Addr} {cw c4 : Nat} {bsm : Option Nat} {now safe : List Nt} {ws : List Ch} {f : Ch}
    (hD : DirB V d X F (some b) bsm Aw cw now safe ws) (hA : App V 0 103 3 (.slice Aw ws.length cw) (ws.length + 1) (chCells ws ++ f.cells) w7 (.slice A4 (ws.length + 1) c4)) :
    MapN (w7.setCell ⟨d, 3, none⟩ (.slice A4 (ws.length + 1) c4)) b now ∧ (w7.setCell ⟨d, 3, none⟩ (.slice A4 (ws.length + 1) c4)).heap[d]? = some (.cells (fsC X (some b) bsm A4 (ws.length + 1) c4) 71 (0, 0)) := by
  have hbox7 := (Mod.of_app hA).keep hD.box (own_ne hD.row hD.box (by decide))
  have hmapV : MapN V b now := by
    rcases hD.now with ⟨h1, _⟩ | ⟨b', h1, h2⟩
    · cases h1
    · injection h1 with h1
      subst h1
      exact h2
  refine ⟨(hmapV.keep (Mod.of_app hA) (fun hk => ?_)).keep ((Mod.refl (oneB d) w7).set _ _ (.inl rfl)) (fun e => ?_), heap_setCell_same w7 d 3 _ _ _ hbox7⟩
  · obtain ⟨es, cl, h2, _⟩ := hmapV
    rcases hD.row.2 with ⟨h3, _⟩ | ⟨g', cap, cur, h3, _, hh, _⟩
    · rw [h3] at hk; cases hk
    · rw [h3] at hk
      injection hk with hk
      subst hk
      rw [h2] at hh
      cases hh
  · have e2 : b = d := e
    subst e2
    obtain ⟨es, cl, h2, _⟩ := hmapV
    rw [hD.box] at h2
    cases h2
theorem do_one {U : World} {b : Nat} {now : List Nt} {f : Ch} (hm : MapN U b now) (hr : Ris Nt.nm now) (hnow : now.length ≤ 100000) (hf : f.fr.size ≤ 1000 ∧ f.to.size ≤ 1000 ∧ (Lit.int .i64 f.id).wf = true) :
    Calls Try.prog 58 #[.map (some b), .slice (some ⟨U.heap.size, 0, none⟩) 1 1, .int .i64 1] (U.alloc (.cells #[.string f.fr, .string f.to, .int .i64 f.id] 103)).drew fun e w' => e = .returned (.tuple #[]) ∧ MapN w' b (step1 now f) ∧ (U.alloc (.cells #[.string f.fr, .string f.to, .int .i64 f.id] 103)).grownBy w' (some b) := by
  refine (do_any b now (some ⟨U.heap.size, 0, none⟩) 1 1 [f] 1 (U.heap.size + 1) (U.alloc (.cells #[.string f.fr, .string f.to, .int .i64 f.id] 103)).drew (show MapN _ b now from World.ownsMap.drew (World.ownsMap.alloc hm _)) hr rfl (by omega) hnow (fun _ => ⟨_, 0, rfl, Nat.lt_succ_self _, fun j u hj => ?_⟩) (fun c hc => by rw [List.mem_singleton] at hc; subst hc; exact hf)).mono ?_
  · rw [Nat.zero_add]
    refine (cell_of_row (U.alloc (.cells #[.string f.fr, .string f.to, .int .i64 f.id] 103)) _ _ _ _ _ (heap_alloc_new U _)).trans ?_
    unfold chCells Ch.cells at hj
    simpa using hj
  · rintro e w' ⟨he, h1, h2⟩
    exact ⟨he, h1, ⟨h2.os, h2.tape, h2.output, h2.size, h2.block⟩⟩

set_option maxRecDepth 100000 in
set_option maxHeartbeats 1000000 in
theorem change_any (d : Nat) (F : Nat → Prop) (now safe : List Nt) (ws : List Ch) (f : Ch) (w : World) (h : DirS w d X F now safe ws) (hr : Ris Nt.nm now) (hws : ws.length ≤ 1000) (hnow : now.length ≤ 100000) (hf : f.fr.size ≤ 1000 ∧ f.to.size ≤ 1000 ∧ (Lit.int .i64 f.id).wf = true) :
    Calls Try.prog 60 #[.pointer (some ⟨d, 1, none⟩), .agg #[.string f.fr, .string f.to, .int .i64 f.id]] w fun e w' => e = .returned (.tuple #[]) ∧ ∃ F', DirS w' d X F' (step1 now f) safe (ws ++ [f]) ∧ StepF F F' w w' := by
  obtain ⟨bn, bs, Aw, cw, hD⟩ := h
  have HD := Lib.hid hD
  have HR := Lib.hid hr
  have HF := Lib.hid hf
  have hdl := hD.lt d hD.fd
  obtain ⟨W0, hW0⟩ : ∃ W0, w.alloc (.cells #[.string f.fr, .string f.to, .int .i64 f.id] 103) = W0 := ⟨_, rfl⟩
  have HM0 : Hid (Mod noB w W0) := by show Mod _ _ _; rw [← hW0]; exact (Mod.refl _ w).alloc _
  have HX0 : Hid (W0.heap[w.heap.size]? = some (.cells #[.string f.fr, .string f.to, .int .i64 f.id] 103 (0, 0))) := by rw [← hW0]; exact heap_alloc_new w _
  have HD0 := Lib.hid (hD.keep HM0.out (fun _ _ h => h))
  have hmix : ∀ V, (binOp .eql 66 (.map bn) (.map none)).run Try.prog V = .ok (.bool bn.isNone) V := fun V => run_eql_map_nil_sl V _ _ _ bn Try.underlying66
  clear hD hr hf
  cases bn with
  | some b =>
    obtain ⟨c0, c1, c2, f0, f1, f2⟩ := HD0.out.cells
    go_enter Try.func60, Try.ntmps60
    go_wp2
    clear c0 c1 c2 f0 f1 f2
    obtain ⟨V, hV⟩ : ∃ V, W0 = V := ⟨_, rfl⟩
    have HDV := HD0
    have HXV := HX0
    have HMV : Hid (Mod F w W0) := HM0.out.mono (fun _ h => h.elim)
    have HFV : Hid (∀ k, F k → F k ∨ w.heap.size ≤ k) := fun k hk => .inl hk
    rw [hV] at HDV HXV HMV ⊢
    clear hV
    obtain ⟨c0, c1, c2, f0, f1, f2⟩ := HDV.out.cells
    have ca0 : ∀ o, (V.alloc o).cell? ⟨d, 1, none⟩ = some (.map (some b)) := fun o => (World.cell?_alloc_lt V o _ (Array.getElem?_eq_some_iff.1 HDV.out.box).1).trans c0
    have ca2 : ∀ o, (V.alloc o).cell? ⟨d, 3, none⟩ = some (.slice Aw ws.length cw) := fun o => (World.cell?_alloc_lt V o _ (Array.getElem?_eq_some_iff.1 HDV.out.box).1).trans c2
    have x0 : V.cell? ⟨w.heap.size, 0, none⟩ = some (.string f.fr) := cell_of_row _ _ _ _ _ _ HXV.out
    have x1 : V.cell? ⟨w.heap.size, 1, none⟩ = some (.string f.to) := cell_of_row _ _ _ _ _ _ HXV.out
    have x2 : V.cell? ⟨w.heap.size, 2, none⟩ = some (.int .i64 f.id) := cell_of_row _ _ _ _ _ _ HXV.out
    go_wp2
    go_region_law (refine step_app1 V chElem (by rfl) (.tmp 17) (.tmp 19) (by rfl) 0 (.slice Aw ws.length cw) ws.length (chCells ws) (by rfl) HDV.out.row #[.string f.fr, .string f.to, .int .i64 f.id] (by rfl) (by rfl) (by intro u hu; simp only [List.mem_cons, List.not_mem_nil, or_false] at hu; rcases hu with rfl | rfl | rfl <;> rfl) (by unfold maxLen; omega) (by omega) (Nat.zero_le _) ?_; intro A4 c4 w7 hA; have HA := Lib.hid hA; have hb7 := (Mod.of_app hA).keep HDV.out.box (own_ne HDV.out.row HDV.out.box (by decide)); have e0 : w7.cell? ⟨d, 1, none⟩ = some (.map (some b)) := cell_of_row _ _ 1 _ _ _ hb7; have e2 : w7.cell? ⟨d, 3, none⟩ = some (.slice Aw ws.length cw) := cell_of_row _ _ 3 _ _ _ hb7; have g2 : w7.frozen? ⟨d, 3, none⟩ = false := (by simp [World.frozen?, hb7]); clear hA hb7)
    all_goals
      clear ca0 ca2 c0 c1 c2 f0 f1 f2 x0 x1 x2 e0 e2 g2
      have HMI := Lib.hid (change_mid HDV.out HA.out)
      have HX7 := (Mod.of_app HA.out).keep HXV.out (fun hk => by have := (HD.out.row.lt _ hk).2; omega)
      obtain ⟨U, hU⟩ : ∃ U, w7.setCell ⟨d, 3, none⟩ (.slice A4 (ws.length + 1) c4) = U := ⟨_, rfl⟩
      have HXU : U.heap[w.heap.size]? = some (.cells #[.string f.fr, .string f.to, .int .i64 f.id] 103 (0, 0)) := by rw [← hU]; exact ((Mod.refl (oneB d) w7).set ⟨d, 3, none⟩ _ (.inl rfl)).keep HX7 (fun e => by have e2 : w.heap.size = d := e; omega)
      have HUE := Lib.hid hU
      rw [hU] at HMI
      have e0 : U.cell? ⟨d, 1, none⟩ = some (.map (some b)) := cell_of_row _ _ 1 _ _ _ HMI.out.2
      have ea0 : ∀ o, (U.alloc o).cell? ⟨d, 1, none⟩ = some (.map (some b)) := fun o => (World.cell?_alloc_lt U o _ (Array.getElem?_eq_some_iff.1 HMI.out.2).1).trans e0
      have x0 : U.cell? ⟨w.heap.size, 0, none⟩ = some (.string f.fr) := cell_of_row _ _ _ _ _ _ HXU
      have x1 : U.cell? ⟨w.heap.size, 1, none⟩ = some (.string f.to) := cell_of_row _ _ _ _ _ _ HXU
      have x2 : U.cell? ⟨w.heap.size, 2, none⟩ = some (.int .i64 f.id) := cell_of_row _ _ _ _ _ _ HXU
      have HDO := Lib.hid (do_one HMI.out.1 HR.out hnow HF.out)
      clear HX7 HXU
      go_wp2
      clear hU
      go_region_with (go_at_call 58; refine HDO.out.mono ?_; rintro e w10 ⟨rfl, hm10, hg10⟩; have HM10 := Lib.hid hm10; have HG10 := Lib.hid hg10; clear hm10 hg10)
      all_goals
        go_wp2
        first | refine bodyPost_end (results_none rfl _ _ _) rfl ?_ | (rw [Exit.noGoto_normal]; refine bodyPost_end (results_none rfl _ _ _) rfl ?_)
        have hg := HG10.out
        rw [← HUE.out] at hg
        exact ⟨rfl, change_end HDV.out HA.out HM10.out hg HMV.out HFV.out⟩
  | none =>
    obtain ⟨c0, c1, c2, f0, f1, f2⟩ := HD0.out.cells
    have hnil : now = [] := by
      rcases HD.out.now with ⟨_, h⟩ | ⟨b, h, _⟩
      · exact h
      · cases h
    subst hnil
    have hz0 : W0.heap.size = w.heap.size + 1 := by rw [← hW0, World.size_alloc]
    obtain ⟨b, hb⟩ : ∃ b, W0.heap.size = b := ⟨_, rfl⟩
    obtain ⟨V, hV⟩ : ∃ V, (W0.alloc (.map #[] 0)).setCell ⟨d, 1, none⟩ (.map (some b)) = V := ⟨_, rfl⟩
    have hmA : Mod noB W0 (W0.alloc (.map #[] 0)) := (Mod.refl _ W0).alloc _
    have hmS : Mod (oneB d) (W0.alloc (.map #[] 0)) V := by rw [← hV]; exact (Mod.refl _ _).set ⟨d, 1, none⟩ _ (.inl rfl)
    have hDA := HD0.out.keep hmA (fun _ _ h => h)
    have hneb : ∀ k, F k → k ≠ b := fun k hk e => by have := HD0.out.lt k hk; omega
    have hdm : ∀ {l : List Nt} {k : Nat}, MapN (W0.alloc (.map #[] 0)) k l → k ≠ d := fun h e => by
      subst e
      obtain ⟨es, cl, h2, _⟩ := h
      rw [hDA.box] at h2
      cases h2
    have hmap : MapN (W0.alloc (.map #[] 0)) b [] := by rw [← hb]; exact World.ownsMap_made W0 _ _ _
    have HDV : Hid (DirB V d X (fun k => F k ∨ k = b) (some b) bs Aw cw [] safe ws) := by
      refine ⟨?_, .inr ⟨b, rfl, hmap.keep hmS (fun e => hdm hmap e)⟩, hDA.safe.keep hmS (fun b' hb' e => ?_), own_keep hDA.row hmS (fun k hk e => ?_), .inl hDA.fd, fun b' hb' => .inr (by injection hb' with h; exact h.symm), fun b' hb' => .inl (hDA.fs b' hb'), fun b' hb' => .inl (hDA.fw b' hb'), fun b' hb' hs => ?_, ?_⟩
      · rw [← hV]; exact heap_setCell_same _ d 1 _ _ _ hDA.box
      · rcases hDA.safe with ⟨h1, _⟩ | ⟨b2, h1, h2⟩
        · rw [h1] at hb'; cases hb'
        · rw [h1] at hb'
          injection hb' with hb'
          subst hb'
          exact hdm h2 e
      · have e2 : k = d := e
        subst e2
        exact own_ne hDA.row hDA.box (by decide) hk
      · injection hb' with hb'
        exact hneb b' (hDA.fs b' hs) hb'.symm
      · rintro k (hk | hk)
        · exact Nat.lt_of_lt_of_le (hDA.lt k hk) hmS.size
        · have := hmS.size; rw [World.size_alloc] at this; omega
    have HXV : Hid (V.heap[w.heap.size]? = some (.cells #[.string f.fr, .string f.to, .int .i64 f.id] 103 (0, 0))) := hmS.keep (hmA.keep HX0.out (fun h => h)) (fun e => by have e2 : w.heap.size = d := e; omega)
    have HMV : Hid (Mod F w V) := (HM0.out.mono (T := F) (fun _ h => h.elim)).trans ((hmA.mono (T := oneB d) (fun _ h => h.elim)).then_ hmS) (fun k hk => .inl (by have e : k = d := hk; subst e; exact HD.out.fd))
    have HFV : Hid (∀ k, (F k ∨ k = b) → F k ∨ w.heap.size ≤ k) := by
      rintro k (hk | hk)
      · exact .inl hk
      · exact .inr (by omega)
    have hmm := @run_makeMap Try.prog
    have ca0 : (W0.alloc (.map #[] 0)).cell? ⟨d, 1, none⟩ = some (.map none) := cell_of_row _ _ 1 _ _ _ hDA.box
    have fa0 : (W0.alloc (.map #[] 0)).frozen? ⟨d, 1, none⟩ = false := by simp [World.frozen?, hDA.box]
    clear hneb hdm hmap hDA hmA hmS hz0
    go_enter Try.func60, Try.ntmps60
    go_wp2_with fail
    clear c0 c1 c2 f0 f1 f2 ca0 fa0 hmm hV
    obtain ⟨c0, c1, c2, f0, f1, f2⟩ := HDV.out.cells
    have ca0 : ∀ o, (V.alloc o).cell? ⟨d, 1, none⟩ = some (.map (some b)) := fun o => (World.cell?_alloc_lt V o _ (Array.getElem?_eq_some_iff.1 HDV.out.box).1).trans c0
    have ca2 : ∀ o, (V.alloc o).cell? ⟨d, 3, none⟩ = some (.slice Aw ws.length cw) := fun o => (World.cell?_alloc_lt V o _ (Array.getElem?_eq_some_iff.1 HDV.out.box).1).trans c2
    have x0 : V.cell? ⟨w.heap.size, 0, none⟩ = some (.string f.fr) := cell_of_row _ _ _ _ _ _ HXV.out
    have x1 : V.cell? ⟨w.heap.size, 1, none⟩ = some (.string f.to) := cell_of_row _ _ _ _ _ _ HXV.out
    have x2 : V.cell? ⟨w.heap.size, 2, none⟩ = some (.int .i64 f.id) := cell_of_row _ _ _ _ _ _ HXV.out
    go_wp2
    go_region_law (refine step_app1 V chElem (by rfl) (.tmp 17) (.tmp 19) (by rfl) 0 (.slice Aw ws.length cw) ws.length (chCells ws) (by rfl) HDV.out.row #[.string f.fr, .string f.to, .int .i64 f.id] (by rfl) (by rfl) (by intro u hu; simp only [List.mem_cons, List.not_mem_nil, or_false] at hu; rcases hu with rfl | rfl | rfl <;> rfl) (by unfold maxLen; omega) (by omega) (Nat.zero_le _) ?_; intro A4 c4 w7 hA; have HA := Lib.hid hA; have hb7 := (Mod.of_app hA).keep HDV.out.box (own_ne HDV.out.row HDV.out.box (by decide)); have e0 : w7.cell? ⟨d, 1, none⟩ = some (.map (some b)) := cell_of_row _ _ 1 _ _ _ hb7; have e2 : w7.cell? ⟨d, 3, none⟩ = some (.slice Aw ws.length cw) := cell_of_row _ _ 3 _ _ _ hb7; have g2 : w7.frozen? ⟨d, 3, none⟩ = false := (by simp [World.frozen?, hb7]); clear hA hb7)
    all_goals
      clear ca0 ca2 c0 c1 c2 f0 f1 f2 x0 x1 x2 e0 e2 g2
      have HMI := Lib.hid (change_mid HDV.out HA.out)
      have HX7 := (Mod.of_app HA.out).keep HXV.out (fun hk => by have := (HD.out.row.lt _ hk).2; omega)
      obtain ⟨U, hU⟩ : ∃ U, w7.setCell ⟨d, 3, none⟩ (.slice A4 (ws.length + 1) c4) = U := ⟨_, rfl⟩
      have HXU : U.heap[w.heap.size]? = some (.cells #[.string f.fr, .string f.to, .int .i64 f.id] 103 (0, 0)) := by rw [← hU]; exact ((Mod.refl (oneB d) w7).set ⟨d, 3, none⟩ _ (.inl rfl)).keep HX7 (fun e => by have e2 : w.heap.size = d := e; omega)
      have HUE := Lib.hid hU
      rw [hU] at HMI
      have e0 : U.cell? ⟨d, 1, none⟩ = some (.map (some b)) := cell_of_row _ _ 1 _ _ _ HMI.out.2
      have ea0 : ∀ o, (U.alloc o).cell? ⟨d, 1, none⟩ = some (.map (some b)) := fun o => (World.cell?_alloc_lt U o _ (Array.getElem?_eq_some_iff.1 HMI.out.2).1).trans e0
      have x0 : U.cell? ⟨w.heap.size, 0, none⟩ = some (.string f.fr) := cell_of_row _ _ _ _ _ _ HXU
      have x1 : U.cell? ⟨w.heap.size, 1, none⟩ = some (.string f.to) := cell_of_row _ _ _ _ _ _ HXU
      have x2 : U.cell? ⟨w.heap.size, 2, none⟩ = some (.int .i64 f.id) := cell_of_row _ _ _ _ _ _ HXU
      have HDO := Lib.hid (do_one HMI.out.1 HR.out hnow HF.out)
      clear HX7 HXU
      go_wp2
      clear hU
      go_region_with (go_at_call 58; refine HDO.out.mono ?_; rintro e w10 ⟨rfl, hm10, hg10⟩; have HM10 := Lib.hid hm10; have HG10 := Lib.hid hg10; clear hm10 hg10)
      all_goals
        go_wp2
        first | refine bodyPost_end (results_none rfl _ _ _) rfl ?_ | (rw [Exit.noGoto_normal]; refine bodyPost_end (results_none rfl _ _ _) rfl ?_)
        have hg := HG10.out
        rw [← HUE.out] at hg
        exact ⟨rfl, change_end HDV.out HA.out HM10.out hg HMV.out HFV.out⟩
end Go.Proofs.Ytcfkepahilioaaa
