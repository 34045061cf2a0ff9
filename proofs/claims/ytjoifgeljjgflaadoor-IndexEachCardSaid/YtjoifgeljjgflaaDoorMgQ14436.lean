/- Layer 24: the law's own function that is handed to an index's iterator. -/
import Derived.Test.YtjoifgeljjgflaaDoorMgQ14435
import Derived.StillTailTactics
import Derived.RegionTactic
namespace Go.Proofs.YtjoifgeljjgflaaDoor
open Go.RowKit Go.Shelf

theorem nm_len (ms : List LM) : (nmCells ms).length = ms.length := by unfold nmCells; simp
set_option maxRecDepth 100000 in
set_option maxHeartbeats 4000000 in
theorem eachCl_any (pf pi pn ps pk : Nat) (A An : Option Addr) (c cn k B : Nat) (xs : List LM) (x : LM) (till : Int) (fo : ByteArray) (ok : List Value) (W : World) (hx : xs[k]? = some x) (hL : xs.length ≤ 100000) (hc : Cells W B A (memCells xs)) (hn : Cells W B An (nmCells xs))
    (_hki : ¬ pk = pi) (hf : W.heap[pf]? = some (.cells #[.bool true] 4)) (hi : W.heap[pi]? = some (.cells #[.int .i64 (k : Int)] 3)) (hin : W.heap[pn]? = some (.cells #[.slice A xs.length c] 22)) (hnm : W.heap[ps]? = some (.cells #[.slice An xs.length cn] 45)) (hk : W.heap[pk]? = some (.cells (.string fo :: .int .i64 till :: ok).toArray 43)) :
    Calls Tryd.prog 20 #[aggM x, .pointer (some ⟨pf, 0, none⟩), .pointer (some ⟨pi, 0, none⟩), .pointer (some ⟨pn, 0, none⟩), .pointer (some ⟨ps, 0, none⟩), .pointer (some ⟨pk, 0, none⟩)] W
      fun e W' => e = .returned (.bool (decide (¬ ((k + 1 : Nat) : Int) = till))) ∧ W'.heap[pi]? = some (.cells #[.int .i64 ((k + 1 : Nat) : Int)] 3) ∧ Mod (oneB pi) W W' := by
  have hkl : k < xs.length := (List.getElem?_eq_some_iff.1 hx).1
  obtain ⟨b, o, rfl, hbB, hcc⟩ := hc (by rw [mems_len]; omega)
  obtain ⟨b2, o2, rfl, hbB2, hcc2⟩ := hn (by rw [nm_len]; omega)
  have ltf := (Array.getElem?_eq_some_iff.1 hf).1
  have lti := (Array.getElem?_eq_some_iff.1 hi).1
  have hne : pf ≠ pi := fun e => by rw [e, hi] at hf; cases hf
  have hne' : ¬ pi = pf := fun e => hne e.symm
  have hkf : ¬ pk = pf := fun e => by rw [e, hf] at hk; cases hk
  obtain ⟨W1, hW1⟩ : ∃ W1, W.alloc (.cells #[.string x.nm, .int .i64 x.at_, .int .i64 x.fr, .int .i64 x.ar, .int .i64 x.sz, .int .u32 x.su, .int .i64 x.me] 32) = W1 := ⟨_, rfl⟩
  have hx1 : Box W1 W.heap.size #[.string x.nm, .int .i64 x.at_, .int .i64 x.fr, .int .i64 x.ar, .int .i64 x.sz, .int .u32 x.su, .int .i64 x.me] 32 := by rw [← hW1]; exact heap_alloc_new W _
  have hb1 : Below W.heap.size W W1 := by rw [← hW1]; exact (Below.refl _ W).alloc (Nat.le_refl _) _
  have up : ∀ {a : Addr} {v : Value}, W.cell? a = some v → W1.cell? a = some v := fun {a v} h => (hb1.cell (p := a) (World.block_lt_of_cell? W _ h)).trans h
  obtain ⟨d0, d1, d2, d3, d4, d5, d6⟩ := mem_at hbB hcc (Below.refl _ _) hx
  obtain ⟨e0, e1, e2, e3, e4, e5, e6⟩ : _ ∧ _ ∧ _ ∧ _ ∧ _ ∧ _ ∧ _ := ⟨up d0, up d1, up d2, up d3, up d4, up d5, up d6⟩
  have en : W1.cell? ⟨b2, o2 + k, none⟩ = some (.string x.nm) := up (hcc2 k _ (by unfold nmCells; rw [List.getElem?_map, hx]; rfl))
  obtain ⟨g0, g1, g2, g3, g4, g5, g6, _⟩ := box7 hx1
  have kf : W1.cell? ⟨pf, 0, none⟩ = some (.bool true) := up (cell_of_row W pf 0 _ _ _ hf)
  have ki : W1.cell? ⟨pi, 0, none⟩ = some (.int .i64 (k : Int)) := up (cell_of_row W pi 0 _ _ _ hi)
  have kn : W1.cell? ⟨pn, 0, none⟩ = some (.slice (some ⟨b, o, none⟩) xs.length c) := up (cell_of_row W pn 0 _ _ _ hin)
  have ks : W1.cell? ⟨ps, 0, none⟩ = some (.slice (some ⟨b2, o2, none⟩) xs.length cn) := up (cell_of_row W ps 0 _ _ _ hnm)
  have kk : W1.cell? ⟨pk, 1, none⟩ = some (.int .i64 till) := up (by rw [cell_of_row W pk 1 _ _ _ hk]; rfl)
  have hf1 : W1.heap[pf]? = some (.cells #[.bool true] 4) := (hb1.block _ ltf).trans hf
  have hi1 : W1.heap[pi]? = some (.cells #[.int .i64 (k : Int)] 3) := (hb1.block _ lti).trans hi
  have ff := frozen_of_row W1 pf 0 _ _ hf1
  have fi := frozen_of_row W1 pi 0 _ _ hi1
  have HF := Lib.hid hf1
  have HI := Lib.hid hi1
  have HB1 := Lib.hid hb1
  have hwk : IntKind.i64.wrap ((k : Int) + 1) = (k : Int) + 1 := IntWalk.i64_in _ (by omega)
  have hki0 : (k : Int) < (xs.length : Int) := by omega
  have hrn : ∀ V, (binOp .eql 32 (aggM x) (aggM x)).run Tryd.prog V = .ok (.bool true) V := fun V => by rw [run_eqM x x V]; simp [eqM]
  clear hcc hcc2 hc hn hx hf hi hin hnm hk hx1 up hb1 ltf lti hf1 hi1 d0 d1 d2 d3 d4 d5 d6
  go_enter Tryd.func20, Tryd.ntmps20
  go_wp2_with fail
  go_still_tail 24, (by kernel_rfl)
  repeat still_step
  change wpList _ _ _ _ _ W1.drew
  go_wp2
  go_ret
  have hs1 := HB1.out.size
  have hw : ∀ Z : World, Z = ((W1.setCell ⟨pf, 0, none⟩ (.bool true)).setCell ⟨pi, 0, none⟩ (.int .i64 ((k : Int) + 1))).drew → Z.heap[pi]? = some (.cells #[.int .i64 ((k + 1 : Nat) : Int)] 3) ∧ Mod (oneB pi) W Z := fun Z hZ => by
    subst hZ
    have h1 : (W1.setCell ⟨pf, 0, none⟩ (.bool true)).heap[pi]? = some (.cells #[.int .i64 (k : Int)] 3) := (Below.heap_setCell W1 ⟨pf, 0, none⟩ _ pi hne').trans HI.out
    refine ⟨heap_setCell_same _ pi 0 _ _ _ h1, HB1.out.os, HB1.out.tape, HB1.out.output, by simpa [World.setCell] using hs1, fun j hj hn => ?_⟩
    have h2 : ((W1.setCell ⟨pf, 0, none⟩ (.bool true)).setCell ⟨pi, 0, none⟩ (.int .i64 ((k : Int) + 1))).heap[j]? = (W1.setCell ⟨pf, 0, none⟩ (.bool true)).heap[j]? := Below.heap_setCell _ ⟨pi, 0, none⟩ _ j (fun e => hn e)
    have h3 : (W1.setCell ⟨pf, 0, none⟩ (.bool true)).heap[j]? = W1.heap[j]? := by
      by_cases hj10 : j = pf
      · rw [hj10, HF.out]
        exact heap_setCell_same W1 pf 0 _ _ _ HF.out
      · exact Below.heap_setCell _ ⟨pf, 0, none⟩ _ j hj10
    exact h2.trans (h3.trans (HB1.out.block j hj))
  obtain ⟨r1, r2⟩ := hw _ rfl
  exact ⟨by simp; rfl, r1, r2⟩
end Go.Proofs.YtjoifgeljjgflaaDoor
/- Layer 24: an index's iterator, told to the law's own function. -/
namespace Go.Proofs.YtjoifgeljjgflaaDoor
open Go.RowKit Go.Shelf

/-- How many are told. -/
def wantN (m : Nat) (till : Int) : Int := if 0 < till ∧ till < (m : Int) then till else (m : Int)
set_option maxRecDepth 100000 in
set_option maxHeartbeats 4000000 in
theorem eachVals_any (b pf pi pn ps pk : Nat) (A0 A An : Option Addr) (c0 c cn B B0 : Nat) (L : List LM) (till : Int) (fo : ByteArray) (ok : List Value) (W : World) (hL : L.length ≤ 100000) (hb : W.heap[b]? = some (.cells #[.slice A0 L.length c0] 22)) (_hbi : b ≠ pi)
    (h0 : Cells W B0 A0 (memCells L)) (hB0 : B0 ≤ pi) (hc : Cells W B A (memCells L)) (hn : Cells W B An (nmCells L)) (hB : B ≤ pi)
    (hki : ¬ pk = pi) (hf : W.heap[pf]? = some (.cells #[.bool true] 4)) (hi : W.heap[pi]? = some (.cells #[.int .i64 0] 3)) (hin : W.heap[pn]? = some (.cells #[.slice A L.length c] 22)) (hnm : W.heap[ps]? = some (.cells #[.slice An L.length cn] 45)) (hk : W.heap[pk]? = some (.cells (.string fo :: .int .i64 till :: ok).toArray 43)) :
    Calls Tryd.prog 47 #[.func (.func 20) #[] #[.pointer (some ⟨pf, 0, none⟩), .pointer (some ⟨pi, 0, none⟩), .pointer (some ⟨pn, 0, none⟩), .pointer (some ⟨ps, 0, none⟩), .pointer (some ⟨pk, 0, none⟩)], .pointer (some ⟨b, 0, none⟩)] W
      fun e W' => e = .returned (.tuple #[]) ∧ W'.heap[pi]? = some (.cells #[.int .i64 (wantN L.length till)] 3) ∧ Mod (oneB pi) W W' := by
  have hpi := (Array.getElem?_eq_some_iff.1 hi).1
  have hnf : pf ≠ pi := fun e => by rw [e, hi] at hf; cases hf
  have hnn : pn ≠ pi := fun e => by rw [e, hi] at hin; cases hin
  have hns : ps ≠ pi := fun e => by rw [e, hi] at hnm; cases hnm
  have HBX := Lib.hid hb
  have H0 := Lib.hid h0
  have HC := Lib.hid hc
  have HN := Lib.hid hn
  have HF := Lib.hid hf
  have HI := Lib.hid hi
  have HIN := Lib.hid hin
  have HNM := Lib.hid hnm
  have HK := Lib.hid hk
  have HLT : Hid (b < W.heap.size ∧ pf < W.heap.size ∧ pn < W.heap.size ∧ ps < W.heap.size ∧ pk < W.heap.size) := ⟨(Array.getElem?_eq_some_iff.1 hb).1, (Array.getElem?_eq_some_iff.1 hf).1, (Array.getElem?_eq_some_iff.1 hin).1, (Array.getElem?_eq_some_iff.1 hnm).1, (Array.getElem?_eq_some_iff.1 hk).1⟩
  have c0' : W.cell? ⟨b, 0, none⟩ = some (.slice A0 L.length c0) := cell_of_row W b 0 _ _ _ hb
  obtain ⟨l, hl⟩ : ∃ l, L.length = l := ⟨_, rfl⟩
  have HL := Lib.hid hl
  rw [hl] at c0' hL ⊢
  clear hb h0 hc hn hf hi hin hnm hk hl
  go_enter Tryd.func47, Tryd.ntmps47
  go_wp2
  go_loopg [7] l (fun gk i wr => ∃ k : Nat, k + gk = l ∧ i = .int .i64 (k : Int) ∧ Mod (oneB pi) W wr ∧ wr.heap[pi]? = some (.cells #[.int .i64 (k : Int)] 3) ∧ (0 < till → (k : Int) < till))
  case atStart => exact ⟨0, by omega, rfl, Mod.refl _ _, HI.out, fun h => h⟩
  case round =>
    obtain ⟨k, hkg, rfl, hmod, gi, htill⟩ := hrel
    have HM := Lib.hid hmod
    have GI := Lib.hid gi
    have HTI := Lib.hid htill
    have hlt := HLT.out
    have hsz := hmod.size
    clear hmod gi htill
    by_cases hk : k < l
    · obtain ⟨x, hx⟩ : ∃ x, L[k]? = some x := ⟨_, List.getElem?_eq_getElem (by have := HL.out; omega)⟩
      have hc0 := H0.out.mod HM.out (by omega) (fun q hq => by have : q = pi := hq; omega)
      obtain ⟨b', o', rfl, hb', hc'⟩ := hc0 (by rw [mems_len]; have := HL.out; omega)
      obtain ⟨e0, e1, e2, e3, e4, e5, e6⟩ := mem_at hb' hc' (Below.refl _ _) hx
      have hki0 : (k : Int) < (l : Int) := by omega
      have hw1 : IntKind.i64.wrap ((k : Int) + 1) = (k : Int) + 1 := IntWalk.i64_in _ (by omega)
      obtain ⟨W6, hW6⟩ : ∃ W6, wr.alloc (.cells #[.string x.nm, .int .i64 x.at_, .int .i64 x.fr, .int .i64 x.ar, .int .i64 x.sz, .int .u32 x.su, .int .i64 x.me] 32) = W6 := ⟨_, rfl⟩
      have hb6 : Below wr.heap.size wr W6 := by rw [← hW6]; exact (Below.refl _ wr).alloc (Nat.le_refl _) _
      have HX6 : Hid (Box W6 wr.heap.size #[.string x.nm, .int .i64 x.at_, .int .i64 x.fr, .int .i64 x.ar, .int .i64 x.sz, .int .u32 x.su, .int .i64 x.me] 32) := by show Box _ _ _ _; rw [← hW6]; exact heap_alloc_new wr _
      obtain ⟨q0, q1, q2, q3, q4, q5, q6, _⟩ := box7 HX6.out
      have HM6 : Hid (Mod (oneB pi) W W6) := HM.out.trans (Mod.of_below hb6) (fun k h => h.elim)
      have HCL : Hid (Calls Tryd.prog 20 #[aggM x, .pointer (some ⟨pf, 0, none⟩), .pointer (some ⟨pi, 0, none⟩), .pointer (some ⟨pn, 0, none⟩), .pointer (some ⟨ps, 0, none⟩), .pointer (some ⟨pk, 0, none⟩)] W6
          fun e W' => e = .returned (.bool (decide (¬ ((k + 1 : Nat) : Int) = till))) ∧ W'.heap[pi]? = some (.cells #[.int .i64 ((k + 1 : Nat) : Int)] 3) ∧ Mod (oneB pi) W6 W') :=
        eachCl_any pf pi pn ps pk A An c cn k B L x till fo ok W6 hx (by have := HL.out; omega) (HC.out.mod HM6.out (by omega) (fun q hq => by have : q = pi := hq; omega)) (HN.out.mod HM6.out (by omega) (fun q hq => by have : q = pi := hq; omega)) hki
          (HM6.out.keep HF.out hnf) ((hb6.block _ (by omega)).trans GI.out) (HM6.out.keep HIN.out hnn) (HM6.out.keep HNM.out hns) (HM6.out.keep HK.out hki)
      clear hx hc' hb' hb6
      by_cases heq : ((k + 1 : Nat) : Int) = till
      · have tb1 : decide (¬ ((k + 1 : Nat) : Int) = till) = false := by simp [heq]
        rw [tb1] at HCL
        have HWN : Hid (wantN l till = ((k + 1 : Nat) : Int)) := by
          show _ = _
          unfold wantN
          split <;> omega
        clear tb1 heq
        go_wp2_with (go_at_call 20; refine HCL.out.mono ?_; rintro e w7 ⟨rfl, h97, hm7⟩; have H97 := Lib.hid h97; have HM7 := Lib.hid hm7; clear h97 hm7)
        refine bodyPost_ret (results_none rfl _ _ _) rfl ?_
        exact ⟨rfl, by rw [HWN.out]; exact H97.out, HM6.out.trans HM7.out (fun k h => .inl h)⟩
      · have tb1 : decide (¬ ((k + 1 : Nat) : Int) = till) = true := decide_eq_true heq
        rw [tb1] at HCL
        have HTI2 : Hid (0 < till → ((k + 1 : Nat) : Int) < till) := fun h => by have := HTI.out h; omega
        clear tb1 heq
        go_wp2_with (go_at_call 20; refine HCL.out.mono ?_; rintro e w7 ⟨rfl, h97, hm7⟩; have H97 := Lib.hid h97; have HM7 := Lib.hid hm7; clear h97 hm7)
        go_roundg (gk - 1)
        case measure => omega
        case rel => exact ⟨k + 1, by omega, by go_num, HM6.out.trans HM7.out (fun k h => .inl h), H97.out, HTI2.out⟩
    · obtain rfl : k = l := by omega
      have t0 : decide ((k : Int) < (k : Int)) = false := decide_eq_false (by omega)
      have HWN : Hid (wantN k till = (k : Int)) := by
        show _ = _
        unfold wantN
        split
        · rename_i h; have := HTI.out h.1; omega
        · rfl
      go_wp2
      go_end0
      exact ⟨rfl, by rw [HWN.out]; exact GI.out, HM.out⟩
end Go.Proofs.YtjoifgeljjgflaaDoor
