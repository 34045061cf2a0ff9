/- Layer 33: the reference's text; steps and answers that aren't as many. -/
import Derived.Test.YtkgkefifcpneiaaDoorReRq
import Derived.Test.YtkgkefifcpneiaaDoorReTx
import Derived.Deep.RegionHeld3
namespace Go.Proofs.YtkgkefifcpneiaaDoor
open Go.RowKit

theorem text_add (tl : List UInt8) (p : Pr) : (⟨tl.toArray⟩ : ByteArray) ++ lineS p ++ ⟨#[10]⟩ = ⟨(tl ++ lineL p).toArray⟩ := by
  apply dt_inj
  rw [dt_append, dt_append]
  show tl ++ (lineS p).data.toList ++ [10] = tl ++ lineL p
  unfold lineL
  rw [List.append_assoc]
set_option maxRecDepth 100000 in
set_option maxHeartbeats 2000000 in
theorem refText33_any (A A2 : Option Addr) (l c c2 : Nat) (ps : List Pr) (B : Nat) (w : World) (hl : ps.length = l) (hm : l ≤ 100) (h1 : ∀ p ∈ ps, p.fine) (hb : Cells w B A (opCells ps)) (hb2 : Cells w B A2 (anCells ps)) (hB : B ≤ w.heap.size) :
    Calls Tryd.prog 20 #[.slice A l c, .slice A2 l c2] w fun e w' => e = .returned (.string ⟨(textL ps).toArray⟩) ∧ Below w.heap.size w w' := by
  have HC := Lib.hid hb
  have HC2 := Lib.hid hb2
  have HL := Lib.hid hl
  have H1 := Lib.hid h1
  clear hb hb2 h1
  go_enter Tryd.func20, Tryd.ntmps20
  go_wp2
  go_loopg [5, 6] l (fun gk s i wr => ∃ k : Nat, k + gk = l ∧ s = .string ⟨(textL (ps.take k)).toArray⟩ ∧ i = .int .i64 k ∧ Below w.heap.size w wr)
  case atStart => exact ⟨0, by omega, rfl, rfl, Below.refl _ w⟩
  case round =>
    obtain ⟨k, hk, rfl, rfl, hbw⟩ := hrel
    have HB1 := Lib.hid hbw
    clear hbw
    by_cases h : k < l
    · obtain ⟨f, hx⟩ : ∃ x, ps[k]? = some x := ⟨_, List.getElem?_eq_getElem (by omega)⟩
      obtain ⟨b, o, rfl, hbB, hc⟩ := HC.out (by rw [opC_len]; omega)
      obtain ⟨b2, o2, rfl, hbB2, hc2⟩ := HC2.out (by rw [anC_len]; omega)
      have HF := Lib.hid (H1.out f (List.mem_of_getElem? hx))
      have HCW : Hid (∀ W, Below w.heap.size w W → ∀ (r : Nat) (u : Value), f.op[r]? = some u → W.cell? ⟨b, o + k * 7 + r, none⟩ = some u) := fun W hW r u hu => by
        rw [Nat.add_assoc]
        exact (hW.cell (p := ⟨b, o + (k * 7 + r), none⟩) (by show b < w.heap.size; omega)).trans (op_at hc hx hu)
      have HCW2 : Hid (∀ W, Below w.heap.size w W → ∀ (r : Nat) (u : Value), f.an[r]? = some u → W.cell? ⟨b2, o2 + k * 7 + r, none⟩ = some u) := fun W hW r u hu => by
        rw [Nat.add_assoc]
        exact (hW.cell (p := ⟨b2, o2 + (k * 7 + r), none⟩) (by show b2 < w.heap.size; omega)).trans (an_at hc2 hx hu)
      have hki : (k : Int) < (l : Int) := by omega
      have hw1 : IntKind.i64.wrap ((k : Int) + 1) = (k : Int) + 1 := IntWalk.i64_in _ (by omega)
      have htl : (textL (ps.take k)).length ≤ 240700 := by
        have := textL_len (l := ps.take k) (fun p hp => H1.out p (List.mem_of_mem_take hp))
        rw [List.length_take] at this
        omega
      have HTA := Lib.hid (text_add (textL (ps.take k)) f)
      have HTS : Hid (textL (ps.take (k + 1)) = textL (ps.take k) ++ lineL f) := by show _ = _; rw [takeP_snoc hx, textL_snoc]
      have hsz : (⟨(textL (ps.take k)).toArray⟩ : ByteArray).size ≤ 240700 := by show (textL (ps.take k)).toArray.size ≤ _; rw [List.size_toArray]; exact htl
      have hlz := line_size HF.out
      have HRL := Lib.hid (fun W => refLine33_any f W HF.out.2.1 HF.out.2.2.1)
      rw [rl_eq f] at HRL
      rw [← HTS.out] at HTA
      clear htl HTS
      generalize (⟨(textL (ps.take k)).toArray⟩ : ByteArray) = t0 at *
      generalize lineS f = ls at *
      have c0 := HCW.out wr HB1.out 0 _ rfl
      have c1 := HCW.out wr HB1.out 1 _ rfl
      have c2 := HCW.out wr HB1.out 2 _ rfl
      have c3 := HCW.out wr HB1.out 3 _ rfl
      have c4 := HCW.out wr HB1.out 4 _ rfl
      have c5 := HCW.out wr HB1.out 5 _ rfl
      have c6 := HCW.out wr HB1.out 6 _ rfl
      rw [Nat.add_zero] at c0
      have d0 := HCW2.out wr HB1.out 0 _ rfl
      have d1 := HCW2.out wr HB1.out 1 _ rfl
      have d2 := HCW2.out wr HB1.out 2 _ rfl
      have d3 := HCW2.out wr HB1.out 3 _ rfl
      have d4 := HCW2.out wr HB1.out 4 _ rfl
      have d5 := HCW2.out wr HB1.out 5 _ rfl
      have d6 := HCW2.out wr HB1.out 6 _ rfl
      rw [Nat.add_zero] at d0
      have HCELLS : Hid (∀ V, Below w.heap.size w V → V.cell? ⟨b, o + k * 7, none⟩ = some (.int .i64 f.kind) ∧ V.cell? ⟨b, o + k * 7 + 1, none⟩ = some (.string f.name) ∧ V.cell? ⟨b, o + k * 7 + 2, none⟩ = some (f.o2) ∧ V.cell? ⟨b, o + k * 7 + 3, none⟩ = some (f.o3) ∧ V.cell? ⟨b, o + k * 7 + 4, none⟩ = some (f.o4) ∧ V.cell? ⟨b, o + k * 7 + 5, none⟩ = some (f.o5) ∧ V.cell? ⟨b, o + k * 7 + 6, none⟩ = some (f.o6) ∧ V.cell? ⟨b2, o2 + k * 7, none⟩ = some (.int .i64 f.e) ∧ V.cell? ⟨b2, o2 + k * 7 + 1, none⟩ = some (.slice f.ad f.dl f.dc) ∧ V.cell? ⟨b2, o2 + k * 7 + 2, none⟩ = some (f.a2) ∧ V.cell? ⟨b2, o2 + k * 7 + 3, none⟩ = some (f.a3) ∧ V.cell? ⟨b2, o2 + k * 7 + 4, none⟩ = some (f.a4) ∧ V.cell? ⟨b2, o2 + k * 7 + 5, none⟩ = some (.bool f.rf) ∧ V.cell? ⟨b2, o2 + k * 7 + 6, none⟩ = some (.bool f.po)) := fun V hV => ⟨(by have := HCW.out V hV 0 _ rfl; rwa [Nat.add_zero] at this), HCW.out V hV 1 _ rfl, HCW.out V hV 2 _ rfl, HCW.out V hV 3 _ rfl, HCW.out V hV 4 _ rfl, HCW.out V hV 5 _ rfl, HCW.out V hV 6 _ rfl, (by have := HCW2.out V hV 0 _ rfl; rwa [Nat.add_zero] at this), HCW2.out V hV 1 _ rfl, HCW2.out V hV 2 _ rfl, HCW2.out V hV 3 _ rfl, HCW2.out V hV 4 _ rfl, HCW2.out V hV 5 _ rfl, HCW2.out V hV 6 _ rfl⟩ -- HELDRT
      have HB2 : Hid (Below w.heap.size w wr.drew) := HB1.out.drew
      clear c0 c1 c2 c3 c4 c5 c6 d0 d1 d2 d3 d4 d5 d6
      clear hc hx hbB hc2 hbB2
      have hs1 : ¬ 9223372036854775807 < t0.size + ls.size := by omega
      have hs2 : ¬ 9223372036854775807 < t0.size + ls.size + 1 := by omega
      have hs3 : (t0 ++ ls).size = t0.size + ls.size := ByteArray.size_append
      have hs4 : (⟨#[10]⟩ : ByteArray).size = 1 := rfl
      go_upto_region 5 with fail
      refine wp_region_noPanic (wp_region_held_drew (S := fun V => V.cell? ⟨b, o + k * 7, none⟩ = some (.int .i64 f.kind) ∧ V.cell? ⟨b, o + k * 7 + 1, none⟩ = some (.string f.name) ∧ V.cell? ⟨b, o + k * 7 + 2, none⟩ = some (f.o2) ∧ V.cell? ⟨b, o + k * 7 + 3, none⟩ = some (f.o3) ∧ V.cell? ⟨b, o + k * 7 + 4, none⟩ = some (f.o4) ∧ V.cell? ⟨b, o + k * 7 + 5, none⟩ = some (f.o5) ∧ V.cell? ⟨b, o + k * 7 + 6, none⟩ = some (f.o6) ∧ V.cell? ⟨b2, o2 + k * 7, none⟩ = some (.int .i64 f.e) ∧ V.cell? ⟨b2, o2 + k * 7 + 1, none⟩ = some (.slice f.ad f.dl f.dc) ∧ V.cell? ⟨b2, o2 + k * 7 + 2, none⟩ = some (f.a2) ∧ V.cell? ⟨b2, o2 + k * 7 + 3, none⟩ = some (f.a3) ∧ V.cell? ⟨b2, o2 + k * 7 + 4, none⟩ = some (f.a4) ∧ V.cell? ⟨b2, o2 + k * 7 + 5, none⟩ = some (.bool f.rf) ∧ V.cell? ⟨b2, o2 + k * 7 + 6, none⟩ = some (.bool f.po)) (by kernel_rfl) (HCELLS.out _ HB2.out) (fun hHeld => ?_))
      (try simp only [Act.put, List.setIfInBounds_toArray, List.set_cons_zero, List.set_cons_succ])
      refine wpAnyH_take (i := 0) (v := ?_) (by simp only [List.getElem?_toArray, List.getElem?_cons_zero]; rfl) (by kernel_rfl) (by kernel_rfl) (by kernel_rfl) (fun _ _ _ h => h) (Or.inl ⟨by rfl, ?_⟩) (by assumption) ?_
      rotate_left
      · intro w hSw; (try dsimp only at hSw); go_split_ands; go_simp; (try with_reducible rfl)
      (try simp only [Act.put, List.setIfInBounds_toArray, List.set_cons_zero, List.set_cons_succ])
      refine wpAnyH_take (i := 1) (v := ?_) (by simp only [List.getElem?_toArray, List.getElem?_cons_succ, List.getElem?_cons_zero]; rfl) (by kernel_rfl) (by kernel_rfl) (by kernel_rfl) (fun _ _ _ h => h) (Or.inl ⟨by rfl, ?_⟩) (by assumption) ?_
      rotate_left
      · intro w hSw; (try dsimp only at hSw); go_split_ands; go_simp; (try with_reducible rfl)
      (try simp only [Act.put, List.setIfInBounds_toArray, List.set_cons_zero, List.set_cons_succ])
      refine wpAnyH_take (i := 2) (v := ?_) (by simp only [List.getElem?_toArray, List.getElem?_cons_succ, List.getElem?_cons_zero]; rfl) (by kernel_rfl) (by kernel_rfl) (by kernel_rfl) (fun _ _ _ h => h) (Or.inl ⟨by rfl, ?_⟩) (by assumption) ?_
      rotate_left
      · intro w hSw; (try dsimp only at hSw); go_split_ands; go_simp; (try with_reducible rfl)
      (try simp only [Act.put, List.setIfInBounds_toArray, List.set_cons_zero, List.set_cons_succ])
      refine wpAnyH_take (i := 3) (v := ?_) (by simp only [List.getElem?_toArray, List.getElem?_cons_succ, List.getElem?_cons_zero]; rfl) (by kernel_rfl) (by kernel_rfl) (by kernel_rfl) (fun _ _ _ h => h) (Or.inl ⟨by rfl, ?_⟩) (by assumption) ?_
      rotate_left
      · intro w hSw; (try dsimp only at hSw); go_split_ands; go_simp; (try with_reducible rfl)
      (try simp only [Act.put, List.setIfInBounds_toArray, List.set_cons_zero, List.set_cons_succ])
      refine wpAnyH_take (i := 4) (v := ?_) (by simp only [List.getElem?_toArray, List.getElem?_cons_succ, List.getElem?_cons_zero]; rfl) (by kernel_rfl) (by kernel_rfl) (by kernel_rfl) (fun _ _ _ h => h) (Or.inl ⟨by rfl, ?_⟩) (by assumption) ?_
      rotate_left
      · intro w hSw; (try dsimp only at hSw); go_split_ands; go_simp; (try with_reducible rfl)
      (try simp only [Act.put, List.setIfInBounds_toArray, List.set_cons_zero, List.set_cons_succ])
      refine wpAnyH_take (i := 5) (v := ?_) (by simp only [List.getElem?_toArray, List.getElem?_cons_succ, List.getElem?_cons_zero]; rfl) (by kernel_rfl) (by kernel_rfl) (by kernel_rfl) (fun _ _ _ h => h) (Or.inl ⟨by rfl, ?_⟩) (by assumption) ?_
      rotate_left
      · intro w hSw; (try dsimp only at hSw); go_split_ands; go_simp; (try with_reducible rfl)
      (try simp only [Act.put, List.setIfInBounds_toArray, List.set_cons_zero, List.set_cons_succ])
      refine wpAnyH_take (i := 6) (v := ?_) (by simp only [List.getElem?_toArray, List.getElem?_cons_succ, List.getElem?_cons_zero]; rfl) (by kernel_rfl) (by kernel_rfl) (by kernel_rfl) (fun _ _ _ h => h) (Or.inl ⟨by rfl, ?_⟩) (by assumption) ?_
      rotate_left
      · intro w hSw; (try dsimp only at hSw); go_split_ands; go_simp; (try with_reducible rfl)
      (try simp only [Act.put, List.setIfInBounds_toArray, List.set_cons_zero, List.set_cons_succ])
      refine wpAnyH_take (i := 7) (v := ?_) (by simp only [List.getElem?_toArray, List.getElem?_cons_succ, List.getElem?_cons_zero]; rfl) (by kernel_rfl) (by kernel_rfl) (by kernel_rfl) (fun _ _ _ h => h) (Or.inl ⟨by rfl, ?_⟩) (by assumption) ?_
      rotate_left
      · intro w hSw; (try dsimp only at hSw); go_split_ands; go_simp; (try with_reducible rfl)
      (try simp only [Act.put, List.setIfInBounds_toArray, List.set_cons_zero, List.set_cons_succ])
      refine wpAnyH_take (i := 8) (v := ?_) (by simp only [List.getElem?_toArray, List.getElem?_cons_succ, List.getElem?_cons_zero]; rfl) (by kernel_rfl) (by kernel_rfl) (by kernel_rfl) (fun _ _ _ h => h) (Or.inl ⟨by rfl, ?_⟩) (by assumption) ?_
      rotate_left
      · intro w hSw; (try dsimp only at hSw); go_split_ands; go_simp; (try with_reducible rfl)
      (try simp only [Act.put, List.setIfInBounds_toArray, List.set_cons_zero, List.set_cons_succ])
      refine wpAnyH_ready (rs := [9]) (by kernel_rfl) (by simp) ?_
      refine AllReadyH.cons rfl (fun K hK => ?_) AllReadyH.nil
      go_simp
      refine (HRL.out _).mono ?_; rintro e W3 ⟨rfl, hb3⟩; have HB3 : Hid (Below w.heap.size w W3) := HB2.out.trans (hb3.mono HB2.out.size); clear hb3
      go_wp2_with fail
      refine hK.out _ _ (HCELLS.out _ HB3.out) (fun hHeld => ?_)
      clear hK K
      (try simp only [Act.put, List.setIfInBounds_toArray, List.set_cons_zero, List.set_cons_succ])
      refine wpAnyH_take (i := 10) (v := ?_) (by simp only [List.getElem?_toArray, List.getElem?_cons_succ, List.getElem?_cons_zero]; rfl) (by kernel_rfl) (by kernel_rfl) (by kernel_rfl) (fun _ _ _ h => h) (Or.inl ⟨by rfl, ?_⟩) (by assumption) ?_
      rotate_left
      · intro w hSw; (try dsimp only at hSw); go_split_ands; go_simp; (try with_reducible rfl)
      (try simp only [Act.put, List.setIfInBounds_toArray, List.set_cons_zero, List.set_cons_succ])
      refine wpAnyH_take (i := 11) (v := ?_) (by simp only [List.getElem?_toArray, List.getElem?_cons_succ, List.getElem?_cons_zero]; rfl) (by kernel_rfl) (by kernel_rfl) (by kernel_rfl) (fun _ _ _ h => h) (Or.inl ⟨by rfl, ?_⟩) (by assumption) ?_
      rotate_left
      · intro w hSw; (try dsimp only at hSw); go_split_ands; go_simp; (try with_reducible rfl)
      (try simp only [Act.put, List.setIfInBounds_toArray, List.set_cons_zero, List.set_cons_succ])
      refine wpAnyH_take (i := 12) (v := ?_) (by simp only [List.getElem?_toArray, List.getElem?_cons_succ, List.getElem?_cons_zero]; rfl) (by kernel_rfl) (by kernel_rfl) (by kernel_rfl) (fun _ _ _ h => h) (Or.inl ⟨by rfl, ?_⟩) (by assumption) ?_
      rotate_left
      · intro w hSw; (try dsimp only at hSw); go_split_ands; go_simp; (try with_reducible rfl)
      (try simp only [Act.put, List.setIfInBounds_toArray, List.set_cons_zero, List.set_cons_succ])
      refine wpAnyH_done (by kernel_rfl) (NoPanic.normal ?_) _
      go_wp2_with fail
      go_roundg (gk - 1)
      case measure => omega
      case rel => exact ⟨k + 1, by omega, by rw [HTA.out], by go_num, HB3.out⟩
    · obtain rfl : k = l := by omega
      have ht : ps.take k = ps := List.take_of_length_le (by have := HL.out; omega)
      rw [ht]
      go_wp2
      go_ret
      exact ⟨rfl, HB1.out⟩
theorem text33_err (A A2 : Option Addr) (l l2 c c2 : Nat) (w : World) (h : l ≠ l2) :
    Calls Tryd.prog 18 #[.slice A l c, .slice A2 l2 c2] w fun e w' => e = .returned (.tuple #[.string ⟨#[]⟩, .int .i64 1]) ∧ w = w' := by
  have hz : (l != l2) = true := by simp [h]
  go_enter Tryd.func18, Tryd.ntmps18
  go_wp2
  go_ret2
  exact ⟨rfl, rfl⟩
set_option maxRecDepth 100000 in
theorem sum33_err (A A2 : Option Addr) (l l2 c c2 : Nat) (w : World) (h : l ≠ l2) :
    Calls Tryd.prog 19 #[.slice A l c, .slice A2 l2 c2] w fun e w' => e = .returned (.tuple #[.agg (smCells 0 smZ).toArray, .int .i64 1]) ∧ Below w.heap.size w w' := by
  have hz : (l != l2) = true := by simp [h]
  go_enter Tryd.func19, Tryd.ntmps19
  go_wp2_with ((first
    | (refine wpList_store_row rfl 55 (.tmp 4) (.tmp 14) rfl w.heap.size rfl 55 (smCells 0 smZ).toArray (smCells 0 smZ).toArray rfl (heap_alloc_new w _) smInfo rfl (sm_one _ _) (fun W hW hM => ?_); have HW := Lib.hid hW; have HM := Lib.hid hM; clear hW hM)))
  refine bodyPost_ret (results_row rfl _ _ w.heap.size rfl _ _ HW.out Tryd.underlying55 rfl smInfo) rfl ?_
  exact ⟨rfl, HM.out.below ((Below.refl _ w).alloc (Nat.le_refl _) _) (by simp) (fun q hq => by have : q = w.heap.size := hq; omega)⟩
end Go.Proofs.YtkgkefifcpneiaaDoor
