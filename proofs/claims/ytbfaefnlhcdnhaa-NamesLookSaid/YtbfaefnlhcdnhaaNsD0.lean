/- Layer 5: Create of both. -/
import Derived.Test.YtbfaefnlhcdnhaaNsD
import Derived.Deep.RegionHeld3
namespace Go.Proofs.Ytbfaefnlhcdnhaa
open Go.RowKit Go.Maps

set_option linter.unusedSimpArgs false in
set_option maxRecDepth 100000 in
set_option maxHeartbeats 2000000 in
theorem does_0 (d r : Nat) (F G : Nat → Prop) (s : Nst) (a b : ByteArray) (n : Int) (w : World) (h : BothN w d r F G s) (hm : s.many ≤ 900) (ha : a.size ≤ 1000) (hn : (Lit.int .i64 n).wf = true) :
    Calls Try.prog 9 #[.pointer (some ⟨d, 0, none⟩), .pointer (some ⟨r, 0, none⟩), .agg #[.int .i64 0, .string a, .string b, .int .i64 n]] w fun e w' => e = .returned (.bool true) ∧ ∃ F' G', Went w w' d r F G (pickS (crE s.now a) s ⟨noN, a, n⟩) F' G' := by
  have HB := Lib.hid h
  have hnl := h.ok.now_len
  have hwl := s.ws_le
  have hpl := h.ok.len
  have HD1 := Lib.hid (fun W (hW : Mod noB w W) => create5_any d F s.now s.safe s.ws a n hn W (h.dir.keep hW (fun _ _ h => h)) h.ok.now_ris (by omega) (by omega) ha)
  have HR1 := Lib.hid (fun w5 (h5 : Mod F w w5) W (hW : Mod noB w5 W) => rcreate5_any r G s.now s.past a n W ((h.ref.keep h5 (fun k hg hf => h.apart k hf hg)).keep hW (fun _ _ h => h)) h.ok.now_ris (by omega) (by omega))
  have HOK : Hid ((pickS (crE s.now a) s ⟨noN, a, n⟩).Ok) := by
    show Nst.Ok _
    unfold pickS
    split
    · rename_i h0
      exact h.ok.more _ ⟨(show noN.size ≤ 1000 by decide), ha, hn⟩
    · exact h.ok
  have HL : Hid (crE s.now a = 0 → withK Nt.nm s.now ⟨a, n⟩ = (s.more ⟨noN, a, n⟩).now) := (fun h0 => h.ok.create h0)
  have HX : Hid (∀ w5, Mod F (w.alloc (.cells #[.int .i64 0, .string a, .string b, .int .i64 n] 37)) w5 → w5.heap[w.heap.size]? = some (.cells #[.int .i64 0, .string a, .string b, .int .i64 n] 37 (0, 0))) := fun w5 h5 => h5.keep (heap_alloc_new w _) (fun hf => by have := HB.out.dir.lt _ hf; omega)
  have mixed : Try.prog.follows Departure.mixedOrders = true := by kernel_rfl
  obtain ⟨EE, hEE⟩ : ∃ EE, crE s.now a = EE := ⟨_, rfl⟩
  rw [hEE] at HD1 HR1 HOK HL ⊢
  clear h hnl hwl hpl hm hEE
  go_enter Try.func9, Try.ntmps9
  go_wp2_with fail
  obtain ⟨W, hW⟩ : ∃ W, w.alloc (.cells #[.int .i64 0, .string a, .string b, .int .i64 n] 37) = W := ⟨_, rfl⟩
  rw [hW] at HX ⊢
  have hmw : Mod noB w W := by rw [← hW]; exact (Mod.refl noB w).alloc _
  have HMW := Lib.hid hmw
  have HSX : Hid (∀ w5, Mod F W w5 → w5.cell? ⟨w.heap.size, 1, none⟩ = some (.string a) ∧ w5.cell? ⟨w.heap.size, 2, none⟩ = some (.string b) ∧ w5.cell? ⟨w.heap.size, 3, none⟩ = some (.int .i64 n)) := fun w5 h5 => (row4_cells (HX.out w5 h5)).2
  have S0 := HSX.out W.drew (Mod.refl F W).drew
  clear hW hmw
  refine wp_region_noPanic (wp_region_held_drew (S := fun V => V.cell? ⟨w.heap.size, 1, none⟩ = some (.string a) ∧ V.cell? ⟨w.heap.size, 2, none⟩ = some (.string b) ∧ V.cell? ⟨w.heap.size, 3, none⟩ = some (.int .i64 n)) (by kernel_rfl) S0 (fun hHeld => ?_))
  (try simp only [Act.put, List.setIfInBounds_toArray, List.set_cons_zero, List.set_cons_succ])
  refine wpAnyH_take (i := 0) (v := ?_) (by simp only [List.getElem?_toArray, List.getElem?_cons_succ, List.getElem?_cons_zero]; rfl) (by kernel_rfl) (by kernel_rfl) (by kernel_rfl) (fun _ _ _ h => h) (Or.inl ⟨by rfl, ?_⟩) (by assumption) ?_
  rotate_left
  · intro w hSw; (try dsimp only at hSw); go_split_ands; go_simp; (try with_reducible rfl)
  (try simp only [Act.put, List.setIfInBounds_toArray, List.set_cons_zero, List.set_cons_succ])
  refine wpAnyH_take (i := 1) (v := ?_) (by simp only [List.getElem?_toArray, List.getElem?_cons_succ, List.getElem?_cons_zero]; rfl) (by kernel_rfl) (by kernel_rfl) (by kernel_rfl) (fun _ _ _ h => h) (Or.inl ⟨by rfl, ?_⟩) (by assumption) ?_
  rotate_left
  · intro w hSw; (try dsimp only at hSw); go_split_ands; go_simp; (try with_reducible rfl)
  (try simp only [Act.put, List.setIfInBounds_toArray, List.set_cons_zero, List.set_cons_succ])
  refine wpAnyH_take (i := 2) (v := ?_) (by simp only [List.getElem?_toArray, List.getElem?_cons_succ, List.getElem?_cons_zero]; rfl) (by kernel_rfl) (by kernel_rfl) (by kernel_rfl) (fun _ _ _ h => h) (Or.inl ⟨by rfl, ?_⟩) (by assumption) ?_
  rotate_left
  · intro w hSw; (try dsimp only at hSw); go_split_ands; go_simp; (try with_reducible rfl)
  (try simp only [Act.put, List.setIfInBounds_toArray, List.set_cons_zero, List.set_cons_succ])
  refine wpAnyH_take (i := 3) (v := ?_) (by simp only [List.getElem?_toArray, List.getElem?_cons_succ, List.getElem?_cons_zero]; rfl) (by kernel_rfl) (by kernel_rfl) (by kernel_rfl) (fun _ _ _ h => h) (Or.inl ⟨by rfl, ?_⟩) (by assumption) ?_
  rotate_left
  · intro w hSw; (try dsimp only at hSw); go_split_ands; go_simp; (try with_reducible rfl)
  (try simp only [Act.put, List.setIfInBounds_toArray, List.set_cons_zero, List.set_cons_succ])
  refine wpAnyH_take (i := 4) (v := ?_) (by simp only [List.getElem?_toArray, List.getElem?_cons_succ, List.getElem?_cons_zero]; rfl) (by kernel_rfl) (by kernel_rfl) (by kernel_rfl) (fun _ _ _ h => h) (Or.inl ⟨by rfl, ?_⟩) (by assumption) ?_
  rotate_left
  · intro w hSw; (try dsimp only at hSw); go_split_ands; go_simp; (try with_reducible rfl)
  (try simp only [Act.put, List.setIfInBounds_toArray, List.set_cons_zero, List.set_cons_succ])
  refine wpAnyH_take (i := 6) (v := ?_) (by simp only [List.getElem?_toArray, List.getElem?_cons_succ, List.getElem?_cons_zero]; rfl) (by kernel_rfl) (by kernel_rfl) (by kernel_rfl) (fun _ _ _ h => h) (Or.inl ⟨by rfl, ?_⟩) (by assumption) ?_
  rotate_left
  · intro w hSw; (try dsimp only at hSw); go_split_ands; go_simp; (try with_reducible rfl)
  (try simp only [Act.put, List.setIfInBounds_toArray, List.set_cons_zero, List.set_cons_succ])
  refine wpAnyH_take (i := 7) (v := ?_) (by simp only [List.getElem?_toArray, List.getElem?_cons_succ, List.getElem?_cons_zero]; rfl) (by kernel_rfl) (by kernel_rfl) (by kernel_rfl) (fun _ _ _ h => h) (Or.inl ⟨by rfl, ?_⟩) (by assumption) ?_
  rotate_left
  · intro w hSw; (try dsimp only at hSw); go_split_ands; go_simp; (try with_reducible rfl)
  (try simp only [Act.put, List.setIfInBounds_toArray, List.set_cons_zero, List.set_cons_succ])
  refine wpAnyH_take (i := 8) (v := ?_) (by simp only [List.getElem?_toArray, List.getElem?_cons_succ, List.getElem?_cons_zero]; rfl) (by kernel_rfl) (by kernel_rfl) (by kernel_rfl) (fun _ _ _ h => h) (Or.inl ⟨by rfl, ?_⟩) (by assumption) ?_
  rotate_left
  · intro w hSw; (try dsimp only at hSw); go_split_ands; go_simp; (try with_reducible rfl)
  (try simp only [Act.put, List.setIfInBounds_toArray, List.set_cons_zero, List.set_cons_succ])
  refine wpAnyH_take (i := 9) (v := ?_) (by simp only [List.getElem?_toArray, List.getElem?_cons_succ, List.getElem?_cons_zero]; rfl) (by kernel_rfl) (by kernel_rfl) (by kernel_rfl) (fun _ _ _ h => h) (Or.inl ⟨by rfl, ?_⟩) (by assumption) ?_
  rotate_left
  · intro w hSw; (try dsimp only at hSw); go_split_ands; go_simp; (try with_reducible rfl)
  (try simp only [Act.put, List.setIfInBounds_toArray, List.set_cons_zero, List.set_cons_succ])
  refine wpAnyH_take (i := 10) (v := ?_) (by simp only [List.getElem?_toArray, List.getElem?_cons_succ, List.getElem?_cons_zero]; rfl) (by kernel_rfl) (by kernel_rfl) (by kernel_rfl) (fun _ _ _ h => h) (Or.inl ⟨by rfl, ?_⟩) (by assumption) ?_
  rotate_left
  · intro w hSw; (try dsimp only at hSw); go_split_ands; go_simp; (try with_reducible rfl)
  (try simp only [Act.put, List.setIfInBounds_toArray, List.set_cons_zero, List.set_cons_succ])
  refine wpAnyH_ready (rs := [5]) (by kernel_rfl) (by simp) ?_
  refine AllReadyH.cons rfl (fun K hK => ?_) AllReadyH.nil
  go_simp
  refine (HD1.out W.drew HMW.out.drew).mono ?_; rintro e w5 ⟨rfl, F', hd, hst⟩; have HD5 := Lib.hid hd; have HS5 := Lib.hid hst; have HM5 : Hid (Mod F w w5) := (HMW.out.drew.mono (T := F) (fun _ h => h.elim)).then_ hst.mod; have hm5 : Mod F W w5 := ⟨hst.mod.os, hst.mod.tape, hst.mod.output, hst.mod.size, hst.mod.block⟩; have S5 := HSX.out w5 hm5; have HMX := Lib.hid hm5; clear hd hst hm5
  go_wp2_with fail
  refine hK.out _ _ S5 (fun hHeld => ?_)
  clear hK K
  (try simp only [Act.put, List.setIfInBounds_toArray, List.set_cons_zero, List.set_cons_succ])
  refine wpAnyH_ready (rs := [11]) (by kernel_rfl) (by simp) ?_
  refine AllReadyH.cons rfl (fun K hK => ?_) AllReadyH.nil
  go_simp
  refine (HR1.out w5 HM5.out w5 (Mod.refl _ _)).mono ?_; rintro e w7 ⟨rfl, G', hr, hst⟩; have HR7 := Lib.hid hr; have HS7 := Lib.hid hst; have S7 : w7.cell? ⟨w.heap.size, 1, none⟩ = some (.string a) ∧ w7.cell? ⟨w.heap.size, 2, none⟩ = some (.string b) ∧ w7.cell? ⟨w.heap.size, 3, none⟩ = some (.int .i64 n) := (row4_cells (hst.mod.keep (HX.out w5 HMX.out) (fun hg => by have := HB.out.ref.lt _ hg; omega))).2; clear hr hst
  go_wp2_with fail
  refine hK.out _ _ S7 (fun hHeld => ?_)
  clear hK K
  (try simp only [Act.put, List.setIfInBounds_toArray, List.set_cons_zero, List.set_cons_succ])
  refine wpAnyH_take (i := 12) (v := ?_) (by simp only [List.getElem?_toArray, List.getElem?_cons_succ, List.getElem?_cons_zero]; rfl) (by kernel_rfl) (by kernel_rfl) (by kernel_rfl) (fun _ _ _ h => h) (Or.inl ⟨by rfl, ?_⟩) (by assumption) ?_
  rotate_left
  · intro w hSw; (try dsimp only at hSw); go_split_ands; go_simp; (try with_reducible rfl)
  (try simp only [Act.put, List.setIfInBounds_toArray, List.set_cons_zero, List.set_cons_succ])
  refine wpAnyH_take (i := 13) (v := ?_) (by simp only [List.getElem?_toArray, List.getElem?_cons_succ, List.getElem?_cons_zero]; rfl) (by kernel_rfl) (by kernel_rfl) (by kernel_rfl) (fun _ _ _ h => h) (Or.inl ⟨by rfl, ?_⟩) (by assumption) ?_
  rotate_left
  · intro w hSw; (try dsimp only at hSw); go_split_ands; go_simp; (try with_reducible rfl)
  (try simp only [Act.put, List.setIfInBounds_toArray, List.set_cons_zero, List.set_cons_succ])
  refine wpAnyH_done (by kernel_rfl) (NoPanic.normal ?_) _
  go_wp2
  go_ret
  obtain ⟨k1, k2⟩ := ch_pair HD5.out HR7.out HL.out
  exact ⟨rfl, F', G', went_of HB.out HMW.out.drew k1 HS5.out (Mod.refl noB _) k2 HS7.out HOK.out⟩
end Go.Proofs.Ytbfaefnlhcdnhaa
