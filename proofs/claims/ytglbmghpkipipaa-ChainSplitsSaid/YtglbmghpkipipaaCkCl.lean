/- Layer 35: the law's own function that is handed to the iterator. -/
import Derived.Test.YtglbmghpkipipaaTkSplit
import Derived.Test.YtglbmghpkipipaaLists
import Derived.StillTailTactics
import Derived.RegionTactic
namespace Go.Proofs.Ytglbmghpkipipaa
open Go.RowKit Go.Shelf

theorem tkC_lenC (L : List Tk) : ∀ r ∈ L, (tkC r).length = 3 := fun _ _ => rfl
set_option maxRecDepth 100000 in
set_option maxHeartbeats 2000000 in
theorem ccl_any (q10 q9 q7 q5 : Nat) (A : Option Addr) (c k B : Nat) (L : List Tk) (t : Tk) (till : Int) (W : World) (ht : L[k]? = some t) (hL : L.length ≤ 100000) (hc : Cells W B A (L.map tkC).flatten)
    (h59 : ¬ q5 = q9) (h10 : W.heap[q10]? = some (.cells #[.bool true] 4)) (h9 : W.heap[q9]? = some (.cells #[.int .i64 (k : Int)] 3)) (h7 : W.heap[q7]? = some (.cells #[.slice A L.length c] 24)) (h5 : W.heap[q5]? = some (.cells #[.int .i64 till] 3)) :
    Calls Try.prog 9 #[tkV t, .pointer (some ⟨q10, 0, none⟩), .pointer (some ⟨q9, 0, none⟩), .pointer (some ⟨q7, 0, none⟩), .pointer (some ⟨q5, 0, none⟩)] W
      fun e W' => e = .returned (.bool (decide (¬ ((k + 1 : Nat) : Int) = till))) ∧ W'.heap[q9]? = some (.cells #[.int .i64 ((k + 1 : Nat) : Int)] 3) ∧ Mod (oneB q9) W W' := by
  obtain ⟨tb, tn, td⟩ := t
  have hkl : k < L.length := (List.getElem?_eq_some_iff.1 ht).1
  have hlen : k * 3 + 0 < (L.map tkC).flatten.length := (List.getElem?_eq_some_iff.1 (code_at (tkC_lenC L) ht (show (tkC (tb, tn, td))[0]? = some _ from rfl))).1
  obtain ⟨b, o, rfl, _, hcc⟩ := hc (by omega)
  have lt10 := (Array.getElem?_eq_some_iff.1 h10).1
  have lt9 := (Array.getElem?_eq_some_iff.1 h9).1
  have hne : q10 ≠ q9 := fun e => by rw [e, h9] at h10; cases h10
  have hne5 : ¬ q5 = q10 := fun e => by rw [e, h10] at h5; cases h5
  have hne' : ¬ q9 = q10 := fun e => hne e.symm
  obtain ⟨W1, hW1⟩ : ∃ W1, W.alloc (.cells #[.int .u8 (tb.toNat : Int), .int .i64 (tn : Int), .int .i64 (td : Int)] 32) = W1 := ⟨_, rfl⟩
  have hx1 : W1.heap[W.heap.size]? = some (.cells #[.int .u8 (tb.toNat : Int), .int .i64 (tn : Int), .int .i64 (td : Int)] 32) := by rw [← hW1]; exact heap_alloc_new W _
  have hb1 : Below W.heap.size W W1 := by rw [← hW1]; exact (Below.refl _ W).alloc (Nat.le_refl _) _
  have up : ∀ {a : Addr} {v : Value}, W.cell? a = some v → W1.cell? a = some v := fun {a v} h => by rw [← hW1]; exact cell_alloc_l _ h
  have e0 : W1.cell? ⟨b, o + k * 3, none⟩ = some (.int .u8 (tb.toNat : Int)) := up (hcc (k * 3 + 0) _ (code_at (tkC_lenC L) ht rfl))
  have e1 : W1.cell? ⟨b, o + k * 3 + 1, none⟩ = some (.int .i64 (tn : Int)) := up (hcc (k * 3 + 1) _ (code_at (tkC_lenC L) ht rfl))
  have e2 : W1.cell? ⟨b, o + k * 3 + 2, none⟩ = some (.int .i64 (td : Int)) := up (hcc (k * 3 + 2) _ (code_at (tkC_lenC L) ht rfl))
  have g0 : W1.cell? ⟨W.heap.size, 0, none⟩ = some (.int .u8 (tb.toNat : Int)) := cell_of_row W1 _ 0 _ _ _ hx1
  have g1 : W1.cell? ⟨W.heap.size, 1, none⟩ = some (.int .i64 (tn : Int)) := cell_of_row W1 _ 1 _ _ _ hx1
  have g2 : W1.cell? ⟨W.heap.size, 2, none⟩ = some (.int .i64 (td : Int)) := cell_of_row W1 _ 2 _ _ _ hx1
  have k10 : W1.cell? ⟨q10, 0, none⟩ = some (.bool true) := up (cell_of_row W q10 0 _ _ _ h10)
  have k9 : W1.cell? ⟨q9, 0, none⟩ = some (.int .i64 (k : Int)) := up (cell_of_row W q9 0 _ _ _ h9)
  have k7 : W1.cell? ⟨q7, 0, none⟩ = some (.slice (some ⟨b, o, none⟩) L.length c) := up (cell_of_row W q7 0 _ _ _ h7)
  have k5 : W1.cell? ⟨q5, 0, none⟩ = some (.int .i64 till) := up (cell_of_row W q5 0 _ _ _ h5)
  have h101 : W1.heap[q10]? = some (.cells #[.bool true] 4) := (hb1.block _ lt10).trans h10
  have h91 : W1.heap[q9]? = some (.cells #[.int .i64 (k : Int)] 3) := (hb1.block _ lt9).trans h9
  have f10 := frozen_of_row W1 q10 0 _ _ h101
  have f9 := frozen_of_row W1 q9 0 _ _ h91
  have H10 := Lib.hid h101
  have H91 := Lib.hid h91
  have HB1 := Lib.hid hb1
  have HLT := Lib.hid (show q10 < W.heap.size ∧ q9 < W.heap.size from ⟨lt10, lt9⟩)
  have hwk : IntKind.i64.wrap ((k : Int) + 1) = (k : Int) + 1 := IntWalk.i64_in _ (by omega)
  clear hcc hc ht h10 h9 h7 h5 hx1 up hlen hb1 lt10 lt9 h101 h91
  unfold tkV
  dsimp only
  go_enter Try.func9, Try.ntmps9
  go_wp2_with fail
  go_still_tail 14, (by kernel_rfl)
  repeat still_step
  change wpList _ _ _ _ _ W1.drew
  go_wp2
  go_ret
  have hs1 := HB1.out.size
  have hw : ∀ Z : World, Z = ((W1.setCell ⟨q10, 0, none⟩ (.bool true)).setCell ⟨q9, 0, none⟩ (.int .i64 ((k : Int) + 1))).drew → Z.heap[q9]? = some (.cells #[.int .i64 ((k + 1 : Nat) : Int)] 3) ∧ Mod (oneB q9) W Z := fun Z hZ => by
    subst hZ
    have h1 : (W1.setCell ⟨q10, 0, none⟩ (.bool true)).heap[q9]? = some (.cells #[.int .i64 (k : Int)] 3) := (Below.heap_setCell W1 ⟨q10, 0, none⟩ _ q9 hne').trans H91.out
    refine ⟨heap_setCell_same _ q9 0 _ _ _ h1, HB1.out.os, HB1.out.tape, HB1.out.output, by simpa [World.setCell] using hs1, fun j hj hn => ?_⟩
    have h2 : ((W1.setCell ⟨q10, 0, none⟩ (.bool true)).setCell ⟨q9, 0, none⟩ (.int .i64 ((k : Int) + 1))).heap[j]? = (W1.setCell ⟨q10, 0, none⟩ (.bool true)).heap[j]? := Below.heap_setCell _ ⟨q9, 0, none⟩ _ j (fun e => hn e)
    have h3 : (W1.setCell ⟨q10, 0, none⟩ (.bool true)).heap[j]? = W1.heap[j]? := by
      by_cases hj10 : j = q10
      · rw [hj10, H10.out]
        exact heap_setCell_same W1 q10 0 _ _ _ H10.out
      · exact Below.heap_setCell _ ⟨q10, 0, none⟩ _ j hj10
    exact h2.trans (h3.trans (HB1.out.block j hj))
  obtain ⟨r1, r2⟩ := hw _ rfl
  exact ⟨by simp; rfl, r1, r2⟩
end Go.Proofs.Ytglbmghpkipipaa
