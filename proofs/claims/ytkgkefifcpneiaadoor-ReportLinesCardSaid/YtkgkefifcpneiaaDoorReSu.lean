/- Layer 33: Sum. -/
import Derived.Test.YtkgkefifcpneiaaDoorReAd
import Derived.Test.YtkgkefifcpneiaaDoorReRow
namespace Go.Proofs.YtkgkefifcpneiaaDoor
open Go.RowKit

theorem opC_len (l : List Pr) : (opCells l).length = l.length * 7 := by
  unfold opCells
  induction l with
  | nil => rfl
  | cons f l ih => rw [List.map_cons, List.flatten_cons, List.length_append, ih, List.length_cons]; show 7 + _ = _; omega
theorem anC_len (l : List Pr) : (anCells l).length = l.length * 7 := by
  unfold anCells
  induction l with
  | nil => rfl
  | cons f l ih => rw [List.map_cons, List.flatten_cons, List.length_append, ih, List.length_cons]; show 7 + _ = _; omega
theorem op_at {w : World} {b o : Nat} {l : List Pr} {k : Nat} {f : Pr} (hc : ∀ j u, (opCells l)[j]? = some u → w.cell? ⟨b, o + j, none⟩ = some u) (h : l[k]? = some f) {r : Nat} {u : Value} (hu : f.op[r]? = some u) :
    w.cell? ⟨b, o + (k * 7 + r), none⟩ = some u := hc _ _ (code_at (rs := l) (code := Pr.op) (s := 7) (fun _ _ => rfl) h hu)
theorem an_at {w : World} {b o : Nat} {l : List Pr} {k : Nat} {f : Pr} (hc : ∀ j u, (anCells l)[j]? = some u → w.cell? ⟨b, o + j, none⟩ = some u) (h : l[k]? = some f) {r : Nat} {u : Value} (hu : f.an[r]? = some u) :
    w.cell? ⟨b, o + (k * 7 + r), none⟩ = some u := hc _ _ (code_at (rs := l) (code := Pr.an) (s := 7) (fun _ _ => rfl) h hu)
theorem sm_one (n : Nat) (s : Sm) : (smCells n s).toArray.all (·.oneCell') = true := by
  rw [Array.all_eq_true_iff_forall_mem]
  intro v hv
  have hv : v ∈ smCells n s := by simpa using hv
  unfold smCells at hv
  simp only [List.mem_append, List.mem_cons, List.not_mem_nil, or_false, List.mem_map] at hv
  rcases hv with (rfl | rfl | rfl | rfl) | ⟨x, _, rfl⟩ | ⟨x, _, rfl⟩ <;> rfl
theorem sm_size {n : Nat} {s : Sm} {m : Nat} (h : s.Ok m) : (smCells n s).toArray.size = 40 := by
  rw [List.size_toArray]
  unfold smCells
  simp [h.kl, h.el]
theorem opInfo33 : (Tryd.prog.info? 36).map (·.size) = some 7 := by kernel_rfl
theorem smInfo : (Tryd.prog.info? 55).map (·.size) = some 40 := by kernel_rfl
set_option maxRecDepth 100000 in
set_option maxHeartbeats 2000000 in
theorem sum33_any (A A2 : Option Addr) (l c c2 : Nat) (ps : List Pr) (B : Nat) (w : World) (hl : ps.length = l) (hm : l ≤ 100) (h1 : ∀ p ∈ ps, p.one) (hb : Cells w B A (opCells ps)) (hb2 : Cells w B A2 (anCells ps)) (hB : B ≤ w.heap.size) :
    Calls Tryd.prog 19 #[.slice A l c, .slice A2 l c2] w fun e w' => e = .returned (.tuple #[.agg (smCells l (sumS ps)).toArray, .int .i64 0]) ∧ Below w.heap.size w w' := by
  have HC := Lib.hid hb
  have HC2 := Lib.hid hb2
  have HL := Lib.hid hl
  have H1 := Lib.hid h1
  have hz : (l != l) = false := by simp
  clear hb hb2 h1
  go_enter Tryd.func19, Tryd.ntmps19
  go_wp2_with ((first
    | (refine wpList_store_row rfl 55 (.tmp 6) (.tmp 17) rfl (w.heap.size + 1) rfl 55 (smCells 0 smZ).toArray (smCells l smZ).toArray rfl (by have := heap_alloc_new (w.alloc (.cells (smCells 0 smZ).toArray 55)) (.cells (smCells 0 smZ).toArray 55); rwa [World.size_alloc] at this) smInfo rfl (sm_one _ _) (fun W hW hM => ?_); have HW := Lib.hid hW; have HM := Lib.hid hM; clear hW hM)))
  have HR : Hid (W.heap[w.heap.size]? = some (.cells (smCells 0 smZ).toArray 55 (0, 0))) := HM.out.keep (((Mod.refl noB _).alloc _).keep (heap_alloc_new w (.cells (smCells 0 smZ).toArray 55)) (fun h => h)) (fun h => by have : w.heap.size = w.heap.size + 1 := h; omega)
  have HBW : Hid (Below w.heap.size w W) := HM.out.below (((Below.refl _ w).alloc (Nat.le_refl _) _).alloc (by simp) _) (by simp; omega) (fun k hk => by have : k = w.heap.size + 1 := hk; omega)
  clear HM
  go_loopg [20] l (fun gk i wr => ∃ k : Nat, k + gk = l ∧ i = .int .i64 k ∧ SmB wr (w.heap.size + 1) l (sumS (ps.take k)) ∧ wr.heap[w.heap.size]? = some (.cells (smCells 0 smZ).toArray 55 (0, 0)) ∧ Below w.heap.size w wr)
  case atStart => exact ⟨0, by omega, rfl, HW.out, HR.out, HBW.out⟩
  case round =>
    obtain ⟨k, hk, rfl, hs, hr, hbw⟩ := hrel
    have HS := Lib.hid hs
    have HR1 := Lib.hid hr
    have HB1 := Lib.hid hbw
    have HG := Lib.hid (Array.getElem?_eq_some_iff.1 hs).1
    clear hs hr hbw
    by_cases h : k < l
    · obtain ⟨f, hx⟩ : ∃ x, ps[k]? = some x := ⟨_, List.getElem?_eq_getElem (by omega)⟩
      obtain ⟨b, o, rfl, hbB, hc⟩ := HC.out (by rw [opC_len]; omega)
      obtain ⟨b2, o2, rfl, hbB2, hc2⟩ := HC2.out (by rw [anC_len]; omega)
      have HX := Lib.hid hx
      have HCW : Hid (∀ W, Below w.heap.size w W → ∀ (r : Nat) (u : Value), f.op[r]? = some u → W.cell? ⟨b, o + k * 7 + r, none⟩ = some u) := fun W hW r u hu => by
        rw [Nat.add_assoc]
        exact (hW.cell (p := ⟨b, o + (k * 7 + r), none⟩) (by show b < w.heap.size; omega)).trans (op_at hc hx hu)
      have HCW2 : Hid (∀ W, Below w.heap.size w W → ∀ (r : Nat) (u : Value), f.an[r]? = some u → W.cell? ⟨b2, o2 + k * 7 + r, none⟩ = some u) := fun W hW r u hu => by
        rw [Nat.add_assoc]
        exact (hW.cell (p := ⟨b2, o2 + (k * 7 + r), none⟩) (by show b2 < w.heap.size; omega)).trans (an_at hc2 hx hu)
      have hki : (k : Int) < (l : Int) := by omega
      have hw1 : IntKind.i64.wrap ((k : Int) + 1) = (k : Int) + 1 := IntWalk.i64_in _ (by omega)
      have HOK := Lib.hid (sumS_ok ps k (by have := HL.out; omega))
      have HF := Lib.hid (H1.out f (List.mem_of_getElem? hx))
      have c0 := HCW.out wr HB1.out 0 _ rfl
      have c1 := HCW.out wr HB1.out 1 _ rfl
      have c2 := HCW.out wr HB1.out 2 _ rfl
      have c3 := HCW.out wr HB1.out 3 _ rfl
      have c4 := HCW.out wr HB1.out 4 _ rfl
      have c5 := HCW.out wr HB1.out 5 _ rfl
      have c6 := HCW.out wr HB1.out 6 _ rfl
      rw [Nat.add_zero] at c0
      clear hc hx hbB hc2 hbB2
      go_upto_region 7 with (first
        | (refine wpList_store_row rfl 36 (.tmp 8) (.tmp 24) rfl wr.heap.size rfl 36 #[.int .i64 0, .string ⟨#[]⟩, .slice none 0 0, .int .i64 0, .slice none 0 0, .int .i64 0, .int .u8 0] #[.int .i64 f.kind, .string f.name, f.o2, f.o3, f.o4, f.o5, f.o6] rfl (heap_alloc_new wr _) opInfo33 rfl (by rw [Array.all_eq_true_iff_forall_mem]; exact fun v hv => Pr.one_op HF.out v (by simpa using hv)) (fun W2 hW2 hM2 => ?_); have HW2 := Lib.hid hW2; have HM2 : Hid (Mod (oneB wr.heap.size) wr W2) := ((Mod.refl _ wr).alloc _).then_ hM2; clear hW2 hM2))
      have HB2 : Hid (Below w.heap.size w W2) := HM2.out.below HB1.out HB1.out.size (fun q hq => by have : q = wr.heap.size := hq; have := HB1.out.size; omega)
      clear c0 c1 c2 c3 c4 c5 c6
      have d0 := cell_of_row _ _ 0 _ _ _ HW2.out
      have d1 := cell_of_row _ _ 1 _ _ _ HW2.out
      have d2 := cell_of_row _ _ 2 _ _ _ HW2.out
      have d3 := cell_of_row _ _ 3 _ _ _ HW2.out
      have d4 := cell_of_row _ _ 4 _ _ _ HW2.out
      have d5 := cell_of_row _ _ 5 _ _ _ HW2.out
      have d6 := cell_of_row _ _ 6 _ _ _ HW2.out
      have c0 := HCW2.out W2 HB2.out 0 _ rfl
      have c1 := HCW2.out W2 HB2.out 1 _ rfl
      have c2 := HCW2.out W2 HB2.out 2 _ rfl
      have c3 := HCW2.out W2 HB2.out 3 _ rfl
      have c4 := HCW2.out W2 HB2.out 4 _ rfl
      have c5 := HCW2.out W2 HB2.out 5 _ rfl
      have c6 := HCW2.out W2 HB2.out 6 _ rfl
      rw [Nat.add_zero] at c0
      have HS2 : Hid (SmB W2.drew (w.heap.size + 1) l (sumS (ps.take k))) := HM2.out.keep HS.out (fun e => by have : w.heap.size + 1 = wr.heap.size := e; have := HG.out; omega)
      go_still_tail 5, (by kernel_rfl)
      go_wp2_with ((first
        | (go_at_call 33; refine (add33_any (w.heap.size + 1) l (sumS (ps.take k)) k f _ HS2.out HOK.out (by omega)).mono ?_; rintro e W3 ⟨rfl, hs3, hm3⟩; have HS3 := Lib.hid hs3; have HM3 : Hid (Mod (oneB (w.heap.size + 1)) W2 W3) := (Mod.refl _ W2).drew.then_ hm3; clear hs3 hm3)))
      go_roundg (gk - 1)
      case measure => omega
      case rel =>
        refine ⟨k + 1, by omega, by go_num, ?_, ?_, ?_⟩
        · rw [takeP_snoc HX.out, sumS_snoc]; exact HS3.out
        · exact HM3.out.keep (HM2.out.keep HR1.out (fun e => by have : w.heap.size = wr.heap.size := e; have := HG.out; omega)) (fun e => by have : w.heap.size = w.heap.size + 1 := e; omega)
        · exact HM3.out.below HB2.out HB2.out.size (fun q hq => by have : q = w.heap.size + 1 := hq; omega)
    · obtain rfl : k = l := by omega
      have ht : ps.take k = ps := List.take_of_length_le (by have := HL.out; omega)
      rw [ht] at HS
      have HOK := sumS_ok ps k (by have := HL.out; omega)
      rw [ht] at HOK
      have HSZ := Lib.hid (sm_size (n := k) HOK)
      clear HOK
      go_wp2_with ((first
        | (refine wpList_load_row rfl 55 (.tmp 6) rfl (w.heap.size + 1) rfl 55 _ _ HS.out Tryd.underlying55 rfl (by rw [HSZ.out]; exact smInfo) ?_)
        | (refine wpList_store_row rfl 55 (.tmp 4) (.tmp 32) rfl w.heap.size rfl 55 _ _ rfl HR1.out (by rw [HSZ.out]; exact smInfo) (by rw [HSZ.out]; rfl) (sm_one _ _) (fun W4 hW4 hM4 => ?_); have HW4 := Lib.hid hW4; have HM4 := Lib.hid hM4; clear hW4 hM4)))
      refine bodyPost_ret (results_row rfl _ _ w.heap.size rfl _ _ HW4.out Tryd.underlying55 rfl (by rw [HSZ.out]; exact smInfo)) rfl ?_
      exact ⟨rfl, HM4.out.below HB1.out HB1.out.size (fun q hq => by have : q = w.heap.size := hq; omega)⟩
end Go.Proofs.YtkgkefifcpneiaaDoor
