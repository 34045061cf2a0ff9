/- Layer 13: tokens of bytes in memory; a fresh writer. -/
import Derived.Test.YtgbbdgoleiolhaaGreatMgBlockBack46
import Derived.Test.YtgbbdgoleiolhaaGreatMgBlockBack31
import Derived.Test.YtgbbdgoleiolhaaGreatMgBlockBack47
import Derived.Deep.RegionHeld3
namespace Go.Proofs.YtgbbdgoleiolhaaGreat
open Go.RowKit BitsP SymP

theorem tkAt_low {w : World} {A : Option Addr} {k : Nat} {y l d : Int} (h : TkAt w A k y l d) : ∀ a, A = some a → a.block < w.heap.size := fun a ha => by
  obtain ⟨b, o, h1, h2, _⟩ := h
  rw [h1] at ha
  cases ha
  exact h2
theorem toksOf_low {w : World} {A : Option Addr} {l : Nat} {ts : List Tk} (h : ToksOf w A l ts) (hl : ts.length = l) (h0 : 0 < l) : ∀ a, A = some a → a.block < w.heap.size := fun a ha => by
  obtain ⟨t, ht⟩ : ∃ t, ts[0]? = some t := ⟨_, List.getElem?_eq_getElem (by omega)⟩
  exact tkAt_low (h.2.1 0 t ht) a ha
theorem tk_cellsB (ts : List Tk) : (ts.map tkC).flatten = ts.flatMap tcC := by
  rw [List.flatMap_def]
  rfl
theorem toksOf_tk {w : World} {A : Option Addr} {ts : List Tk} (h : ∀ t ∈ ts, okT t) (hc : Cells w w.heap.size A (ts.map tkC).flatten) : ToksOf w A ts.length ts := by
  refine ⟨h, fun k t ht => ?_, .inl rfl⟩
  have c0 := code_at (tkC_len ts) (j := 0) ht rfl
  have c1 := code_at (tkC_len ts) (j := 1) ht rfl
  have c2 := code_at (tkC_len ts) (j := 2) ht rfl
  obtain ⟨b, o, h1, h2, h3⟩ := hc (by have := (List.getElem?_eq_some_iff.1 c0).1; omega)
  exact ⟨b, o, h1, h2, h3 _ _ c0, by have h4 := h3 _ _ c1; rw [← Nat.add_assoc] at h4; exact h4, by have h4 := h3 _ _ c2; rw [← Nat.add_assoc] at h4; exact h4⟩
theorem put_fresh2 {A : Option Addr} {l c : Nat} {ts : List Tk} {w : World} (hm : l ≤ 65536) (h : ToksOf w A l ts) (hl : ts.length = l) :
    Calls Tryz.prog 7 #[.pointer (some ⟨w.heap.size, 0, none⟩), .slice A l c] (w.alloc (.cells zeroWr 27)) fun e w' => e = .returned (.int .i64 0) ∧ ∃ S', WrS w' w.heap.size w.heap.size S' (blkB ts) ∧ Below w.heap.size w w' ∧ ∀ k, S' k → w.heap.size ≤ k := by
  have hb : Below w.heap.size w (w.alloc (.cells zeroWr 27)) := (Below.refl _ w).alloc (Nat.le_refl _) _
  refine (blkput_any A l c w.heap.size w.heap.size ts (oneB w.heap.size) [] (w.alloc (.cells zeroWr 27)) hl hm h.1 (h.below hb).2.1 (fun h0 a ha hk => by
    have h2 := toksOf_low h hl h0 a ha
    have h3 : a.block = w.heap.size := hk
    omega) (WrS.zero _ (heap_alloc_new w _)) (by simp) (by simp)).mono ?_
  rintro e w' ⟨h1, S', h2, h3, h4⟩
  refine ⟨h1, S', by simpa using h2, h3.below hb (by simp) (fun k hk => by cases hk; exact Nat.le_refl _), fun k hk => ?_⟩
  rcases h4 k hk with h5 | h5
  · have h6 : k = w.heap.size := h5
    omega
  · simp at h5; omega
end Go.Proofs.YtgbbdgoleiolhaaGreat
/- Layer 13: the bits of a block: the law. -/
namespace Go.Proofs.YtgbbdgoleiolhaaGreat
open Go.RowKit BitsP SymP
attribute [local go_sem ↓] Go.wp_at_zero Go.wp_at_succ

/-- Behind a world S may be changed. -/
theorem wpAnyH_change {P : Program} {md : Region.Mode} {ops : Array Oper} {Q : Exit → Act → World → Prop} {S S2 : World → Prop} (hS : ∀ V, S2 V → S V) : ∀ (fuel : Nat) (listed : Array Bool) (a : Act) (w : World), wpAnyH P md ops Q S2 fuel listed a w → wpAnyH P md ops Q S fuel listed a w
  | 0, _, _, _, h => h
  | fuel + 1, _, _, _, h => ⟨h.1, fun i hi => wpOp_mono (fun a' w' h' => ⟨hS _ h'.1, wpAnyH_change hS fuel _ a' w' h'.2⟩) (h.2 i hi)⟩
theorem below_drewQ {B : Nat} {a w : World} (h : Below B a w) (n : Nat) : Below B a (w.drewN n) := ⟨h.os, h.tape, h.output, h.size, h.block⟩
/-- A block is put by a fresh writer. -/
theorem put_fresh {A : Option Addr} {l c : Nat} {ts : List Tk} {w : World} (hm : l ≤ 65536) (h : ToksOf w A l ts) (hl : ts.length = l) :
    Calls Tryz.prog 7 #[.pointer (some ⟨w.heap.size, 0, none⟩), .slice A l c] (w.alloc (.cells zeroWr 27)) fun e w' => e = .returned (.int .i64 0) ∧ ∃ S', WrS w' w.heap.size w.heap.size S' (blkB ts) ∧ Below w.heap.size w w' := by
  have hb : Below w.heap.size w (w.alloc (.cells zeroWr 27)) := (Below.refl _ w).alloc (Nat.le_refl _) _
  refine (blkput_any A l c w.heap.size w.heap.size ts (oneB w.heap.size) [] (w.alloc (.cells zeroWr 27)) hl hm h.1 (h.below hb).2.1 (fun h0 a ha hk => by
    have h2 := toksOf_low h hl h0 a ha
    have h3 : a.block = w.heap.size := hk
    omega) (WrS.zero _ (heap_alloc_new w _)) (by simp) (by simp)).mono ?_
  rintro e w' ⟨h1, S', h2, h3, _⟩
  exact ⟨h1, S', by simpa using h2, h3.below hb (by simp) (fun k hk => by cases hk; exact Nat.le_refl _)⟩
set_option maxHeartbeats 400000 in
theorem blkbits_yes {A : Option Addr} {l c : Nat} {ts : List Tk} {w : World} (hm : l ≤ 65536) (h : ToksOf w A l ts) (hl : ts.length = l) :
    Calls Tryz.prog 8 #[.slice A l c] w fun e w' => e = .returned (.tuple #[.int .i64 ((blkB ts).length : Nat), .bool true]) ∧ Below w.heap.size w w' := by
  have HP := Lib.hid (put_fresh (c := c) hm h hl)
  have hf := blkB_few h.1
  unfold zeroWr at HP
  clear h
  go_enter Tryz.func8, Tryz.ntmps8
  go_wp2_with (first
    | (go_at_call 7; refine HP.out.mono ?_; rintro e w2 ⟨rfl, S2, hw2, hb2⟩; have HW2 := Lib.hid hw2; have HB2 := Lib.hid hb2; clear hw2 hb2)
    | (go_at_call 10; refine (wlen_any w.heap.size w.heap.size S2 (blkB ts) w2 HW2.out (by omega)).mono ?_; rintro e w' ⟨rfl, n3, rfl⟩))
  go_ret2
  exact ⟨rfl, below_drewQ HB2.out n3⟩
set_option maxHeartbeats 400000 in
theorem blkbits_no {A : Option Addr} {l c : Nat} {ts : List Tk} {w : World} (hm : l ≤ 65536) (h : ToksOf w A l ts) (hl : ts.length ≠ l) :
    Calls Tryz.prog 8 #[.slice A l c] w fun e w' => e = .returned (.tuple #[.int .i64 0, .bool false]) ∧ Below w.heap.size w w' := by
  have hb : Below w.heap.size w (w.alloc (.cells zeroWr 27)) := (Below.refl _ w).alloc (Nat.le_refl _) _
  have HB := Lib.hid hb
  have HP := Lib.hid (blkput_no A l c w.heap.size (w.alloc (.cells zeroWr 27)) (weights_none hm (h.below hb) hl))
  unfold zeroWr at HP HB
  clear h hb
  go_enter Tryz.func8, Tryz.ntmps8
  go_wp2_with (go_at_call 7; refine HP.out.mono ?_; rintro e w2 ⟨rfl, hb2⟩; have HB2 := Lib.hid (HB.out.trans (hb2.mono HB.out.size)); clear hb2)
  go_ret2
  exact ⟨rfl, HB2.out⟩
set_option linter.unusedSimpArgs false in
set_option maxRecDepth 100000 in
set_option maxHeartbeats 2000000 in
theorem bputs_law (A : Option Addr) (l c : Nat) (ts : List Tk) (w : World) (hm : l ≤ 9223372036854775807) (h : ToksOf w A l ts) :
    Calls Tryz.prog 3 #[.slice A l c] w fun e w' => e = .returned (.bool true) ∧ Below w.heap.size w w' := by
  have HLV := Lib.hid lives13_any
  by_cases h3 : 300 < l
  · clear h
    go_enter Tryz.func3, Tryz.ntmps3
    go_wp2_with (go_at_call 6; refine (HLV.out _).mono ?_; rintro e w4 ⟨rfl, hb4⟩; have HB4 := Lib.hid hb4; clear hb4)
    go_ret
    exact ⟨rfl, HB4.out⟩
  have t0 : decide ((300 : Int) < (l : Int)) = false := decide_eq_false (by omega)
  have HNIL := Lib.hid (fun W : World => blkput_nil (.slice A l c) W)
  have HRI : Hid (∀ W, Below w.heap.size w W → _) := fun W hW => rright13_any A l c ts W (by omega) (h.below hW).1 (h.below hW).2.1 (h.below hW).2.2
  by_cases hl : ts.length = l
  · have HP := Lib.hid (put_fresh (c := c) (by omega) h hl)
    have HBT : Hid (∀ W, Below w.heap.size w W → _) := fun W hW => blkbits_yes (c := c) (by omega) (h.below hW) hl
    have HRP : Hid (∀ W, Below w.heap.size w W → _) := fun W hW => rput13_any A l c ts W hl (by omega) (h.below hW).1 (h.below hW).2.1
    rw [show decide (ts.length = l) = true from decide_eq_true hl] at HRI
    have hfew := blkB_few h.1
    obtain ⟨L, hL⟩ : ∃ L, blkB ts = L := ⟨_, rfl⟩
    rw [hL] at HP HRP HBT hfew
    have HPL : Hid ((pack L).length ≤ L.length) := pack_length L
    obtain ⟨P, hP⟩ : ∃ P, pack L = P := ⟨_, rfl⟩
    obtain ⟨str, hS⟩ : ∃ str : ByteArray, (⟨P.toArray⟩ : ByteArray) = str := ⟨_, rfl⟩
    have HPK := Lib.hid hP
    have HSTR := Lib.hid hS
    have hTL : L.length ≤ 300000 := by omega
    unfold zeroWr at HP
    clear h hl hL hP hS hfew
    go_enter Tryz.func3, Tryz.ntmps3
    go_wp2_with (first
      | (go_at_call 7; refine HP.out.mono ?_; clear HP; rintro e w2 ⟨rfl, S2, hw2, hb2⟩; have HW2 := Lib.hid hw2; have HB2 := Lib.hid hb2; clear hw2 hb2)
      | (go_at_call 8; refine (HBT.out _ HB2.out).mono ?_; rintro e w3 ⟨rfl, hb3⟩; have HB3 := Lib.hid (HB2.out.trans (hb3.mono HB2.out.size)); have HW3 := Lib.hid (HW2.out.keep (Mod.of_below hb3) (fun _ _ h => h)); clear hb3)
      | (go_at_call 7; refine (HNIL.out _).mono ?_; rintro e w' ⟨rfl, rfl⟩)
      | (go_at_call 9; refine (HRI.out _ HB3.out).mono ?_; rintro e w4 ⟨rfl, hb4⟩; have HB4 := Lib.hid (HB3.out.trans (hb4.mono HB3.out.size)); have HW4 := Lib.hid (HW3.out.keep (Mod.of_below hb4) (fun _ _ h => h)); clear hb4)
      | (go_at_call 11; refine (HRP.out _ HB4.out).mono ?_; rintro e w5 ⟨A5, c5, rfl, hown5, hb5⟩; have HB5 := Lib.hid (HB4.out.trans (hb5.mono HB4.out.size)); have HW5 := Lib.hid (HW4.out.keep (Mod.of_below hb5) (fun _ _ h => h)); have HO5 := Lib.hid hown5; clear hown5 hb5))
    go_upto_region 11 with fail
    refine wp_region_noPanic (wp_region_held_drew (S := fun _ => True) (by kernel_rfl) trivial (fun hHeld => ?_))
    (try simp only [Act.put, List.setIfInBounds_toArray, List.set_cons_zero, List.set_cons_succ])
    refine wpAnyH_take (i := 0) (v := ?_) (by simp only [List.getElem?_toArray, List.getElem?_cons_succ, List.getElem?_cons_zero]; rfl) (by kernel_rfl) (by kernel_rfl) (by kernel_rfl) (fun _ _ _ h => h) (Or.inl ⟨by rfl, ?_⟩) (by assumption) ?_
    rotate_left
    · intro w hSw; (try dsimp only at hSw); go_split_ands; go_simp; (try with_reducible rfl)
    (try simp only [Act.put, List.setIfInBounds_toArray, List.set_cons_zero, List.set_cons_succ])
    refine wpAnyH_take (i := 1) (v := ?_) (by simp only [List.getElem?_toArray, List.getElem?_cons_succ, List.getElem?_cons_zero]; rfl) (by kernel_rfl) (by kernel_rfl) (by kernel_rfl) (fun _ _ _ h => h) (Or.inl ⟨by rfl, ?_⟩) (by assumption) ?_
    rotate_left
    · intro w hSw; (try dsimp only at hSw); go_split_ands; go_simp; (try with_reducible rfl)
    (try simp only [Act.put, List.setIfInBounds_toArray, List.set_cons_zero, List.set_cons_succ])
    refine wpAnyH_take (i := 2) (v := ?_) (by simp only [List.getElem?_toArray, List.getElem?_cons_succ, List.getElem?_cons_zero]; rfl) (by kernel_rfl) (by kernel_rfl) (by kernel_rfl) (fun _ _ _ h => h) (Or.inl ⟨by rfl, ?_⟩) (by assumption) ?_
    rotate_left
    · intro w hSw; (try dsimp only at hSw); go_split_ands; go_simp; (try with_reducible rfl)
    (try simp only [Act.put, List.setIfInBounds_toArray, List.set_cons_zero, List.set_cons_succ])
    refine wpAnyH_take (i := 3) (v := ?_) (by simp only [List.getElem?_toArray, List.getElem?_cons_succ, List.getElem?_cons_zero]; rfl) (by kernel_rfl) (by kernel_rfl) (by kernel_rfl) (fun _ _ _ h => h) (Or.inl ⟨by rfl, ?_⟩) (by assumption) ?_
    rotate_left
    · intro w hSw; (try dsimp only at hSw); go_split_ands; go_simp; (try with_reducible rfl)
    (try simp only [Act.put, List.setIfInBounds_toArray, List.set_cons_zero, List.set_cons_succ])
    refine wpAnyH_take (i := 4) (v := ?_) (by simp only [List.getElem?_toArray, List.getElem?_cons_succ, List.getElem?_cons_zero]; rfl) (by kernel_rfl) (by kernel_rfl) (by kernel_rfl) (fun _ _ _ h => h) (Or.inl ⟨by rfl, ?_⟩) (by assumption) ?_
    rotate_left
    · intro w hSw; (try dsimp only at hSw); go_split_ands; go_simp; (try with_reducible rfl)
    (try simp only [Act.put, List.setIfInBounds_toArray, List.set_cons_zero, List.set_cons_succ])
    refine wpAnyH_take (i := 5) (v := ?_) (by simp only [List.getElem?_toArray, List.getElem?_cons_succ, List.getElem?_cons_zero]; rfl) (by kernel_rfl) (by kernel_rfl) (by kernel_rfl) (fun _ _ _ h => h) (Or.inl ⟨by rfl, ?_⟩) (by assumption) ?_
    rotate_left
    · intro w hSw; (try dsimp only at hSw); go_split_ands; go_simp; (try with_reducible rfl)
    (try simp only [Act.put, List.setIfInBounds_toArray, List.set_cons_zero, List.set_cons_succ])
    refine wpAnyH_take (i := 6) (v := ?_) (by simp only [List.getElem?_toArray, List.getElem?_cons_succ, List.getElem?_cons_zero]; rfl) (by kernel_rfl) (by kernel_rfl) (by kernel_rfl) (fun _ _ _ h => h) (Or.inl ⟨by rfl, ?_⟩) (by assumption) ?_
    rotate_left
    · intro w hSw; (try dsimp only at hSw); go_split_ands; go_simp; (try with_reducible rfl)
    (try simp only [Act.put, List.setIfInBounds_toArray, List.set_cons_zero, List.set_cons_succ])
    refine wpAnyH_take (i := 7) (v := ?_) (by simp only [List.getElem?_toArray, List.getElem?_cons_succ, List.getElem?_cons_zero]; rfl) (by kernel_rfl) (by kernel_rfl) (by kernel_rfl) (fun _ _ _ h => h) (Or.inl ⟨by rfl, ?_⟩) (by assumption) ?_
    rotate_left
    · intro w hSw; (try dsimp only at hSw); go_split_ands; go_simp; (try with_reducible rfl)
    (try simp only [Act.put, List.setIfInBounds_toArray, List.set_cons_zero, List.set_cons_succ])
    refine wpAnyH_take (i := 8) (v := ?_) (by simp only [List.getElem?_toArray, List.getElem?_cons_succ, List.getElem?_cons_zero]; rfl) (by kernel_rfl) (by kernel_rfl) (by kernel_rfl) (fun _ _ _ h => h) (Or.inl ⟨by rfl, ?_⟩) (by assumption) ?_
    rotate_left
    · intro w hSw; (try dsimp only at hSw); go_split_ands; go_simp; (try with_reducible rfl)
    (try simp only [Act.put, List.setIfInBounds_toArray, List.set_cons_zero, List.set_cons_succ])
    refine wpAnyH_take (i := 9) (v := ?_) (by simp only [List.getElem?_toArray, List.getElem?_cons_succ, List.getElem?_cons_zero]; rfl) (by kernel_rfl) (by kernel_rfl) (by kernel_rfl) (fun _ _ _ h => h) (Or.inl ⟨by rfl, ?_⟩) (by assumption) ?_
    rotate_left
    · intro w hSw; (try dsimp only at hSw); go_split_ands; go_simp; (try with_reducible rfl)
    (try simp only [Act.put, List.setIfInBounds_toArray, List.set_cons_zero, List.set_cons_succ])
    refine wpAnyH_take (i := 10) (v := ?_) (by simp only [List.getElem?_toArray, List.getElem?_cons_succ, List.getElem?_cons_zero]; rfl) (by kernel_rfl) (by kernel_rfl) (by kernel_rfl) (fun _ _ _ h => h) (Or.inl ⟨by rfl, ?_⟩) (by assumption) ?_
    rotate_left
    · intro w hSw; (try dsimp only at hSw); go_split_ands; go_simp; (try with_reducible rfl)
    (try simp only [Act.put, List.setIfInBounds_toArray, List.set_cons_zero, List.set_cons_succ])
    refine wpAnyH_take (i := 11) (v := ?_) (by simp only [List.getElem?_toArray, List.getElem?_cons_succ, List.getElem?_cons_zero]; rfl) (by kernel_rfl) (by kernel_rfl) (by kernel_rfl) (fun _ _ _ h => h) (Or.inl ⟨by rfl, ?_⟩) (by assumption) ?_
    rotate_left
    · intro w hSw; (try dsimp only at hSw); go_split_ands; go_simp; (try with_reducible rfl)
    (try simp only [Act.put, List.setIfInBounds_toArray, List.set_cons_zero, List.set_cons_succ])
    refine wpAnyH_take (i := 13) (v := ?_) (by simp only [List.getElem?_toArray, List.getElem?_cons_succ, List.getElem?_cons_zero]; rfl) (by kernel_rfl) (by kernel_rfl) (by kernel_rfl) (fun _ _ _ h => h) (Or.inl ⟨by rfl, ?_⟩) (by assumption) ?_
    rotate_left
    · intro w hSw; (try dsimp only at hSw); go_split_ands; go_simp; (try with_reducible rfl)
    (try simp only [Act.put, List.setIfInBounds_toArray, List.set_cons_zero, List.set_cons_succ])
    refine wpAnyH_ready (rs := [12]) (by kernel_rfl) (by simp) ?_
    refine AllReadyH.cons rfl (fun K hK => ?_) AllReadyH.nil
    go_simp
    refine (wlen_any w.heap.size w.heap.size S2 L _ ?_ (by omega)).mono ?_; (exact HW5.out); rintro e w' ⟨rfl, nd, rfl⟩
    go_wp2_with fail
    refine hK.out _ _ trivial (fun hHeld => ?_)
    clear hK K
    (try simp only [Act.put, List.setIfInBounds_toArray, List.set_cons_zero, List.set_cons_succ])
    refine wpAnyH_take (i := 14) (v := ?_) (by simp only [List.getElem?_toArray, List.getElem?_cons_succ, List.getElem?_cons_zero]; rfl) (by kernel_rfl) (by kernel_rfl) (by kernel_rfl) (fun _ _ _ h => h) (Or.inl ⟨by rfl, ?_⟩) (by assumption) ?_
    rotate_left
    · intro w hSw; (try dsimp only at hSw); go_split_ands; go_simp; (try with_reducible rfl)
    (try simp only [Act.put, List.setIfInBounds_toArray, List.set_cons_zero, List.set_cons_succ])
    refine wpAnyH_take (i := 15) (v := ?_) (by simp only [List.getElem?_toArray, List.getElem?_cons_succ, List.getElem?_cons_zero]; rfl) (by kernel_rfl) (by kernel_rfl) (by kernel_rfl) (fun _ _ _ h => h) (Or.inl ⟨by rfl, ?_⟩) (by assumption) ?_
    rotate_left
    · intro w hSw; (try dsimp only at hSw); go_split_ands; go_simp; (try with_reducible rfl)
    (try simp only [Act.put, List.setIfInBounds_toArray, List.set_cons_zero, List.set_cons_succ])
    refine wpAnyH_take (i := 16) (v := ?_) (by simp only [List.getElem?_toArray, List.getElem?_cons_succ, List.getElem?_cons_zero]; rfl) (by kernel_rfl) (by kernel_rfl) (by kernel_rfl) (fun _ _ _ h => h) (Or.inl ⟨by rfl, ?_⟩) (by assumption) ?_
    rotate_left
    · intro w hSw; (try dsimp only at hSw); go_split_ands; go_simp; (try with_reducible rfl)
    (try simp only [Act.put, List.setIfInBounds_toArray, List.set_cons_zero, List.set_cons_succ])
    refine wpAnyH_take (i := 19) (v := ?_) (by simp only [List.getElem?_toArray, List.getElem?_cons_succ, List.getElem?_cons_zero]; rfl) (by kernel_rfl) (by kernel_rfl) (by kernel_rfl) (fun _ _ _ h => h) (Or.inl ⟨by rfl, ?_⟩) (by assumption) ?_
    rotate_left
    · intro w hSw; (try dsimp only at hSw); go_split_ands; go_simp; (try with_reducible rfl)
    (try simp only [Act.put, List.setIfInBounds_toArray, List.set_cons_zero, List.set_cons_succ])
    refine wpAnyH_ready (rs := [17]) (by kernel_rfl) (by simp) ?_
    refine AllReadyH.cons rfl (fun K hK => ?_) AllReadyH.nil
    go_simp
    refine (wbytes_any w.heap.size w.heap.size S2 L _ ?_ (by omega)).mono ?_; (exact HW5.out); rintro e w8 ⟨A8, c8, rfl, hown, hbel⟩; rw [HPK.out] at hown; rw [HPK.out]; have hb8 : Below w5.heap.size w5 w8 := ⟨hbel.os, hbel.tape, hbel.output, hbel.size, hbel.block⟩; have HO8 := Lib.hid (Cells.of_own hown); have HOW8 := Lib.hid (Cells.of_own (own_keep HO5.out (Mod.of_below hb8) (fun _ _ h => h))); have HBEL8 := Lib.hid (HB5.out.trans (hb8.mono HB5.out.size)); have k8 := str_any w8 A8 P.length c8 _ P HO8.out rfl; rw [HSTR.out] at k8; have HK8 := Lib.hid k8; clear hown hbel hb8 k8
    go_wp2_with fail
    refine hK.out _ _ trivial (fun hHeld => ?_)
    clear hK K
    (try simp only [Act.put, List.setIfInBounds_toArray, List.set_cons_zero, List.set_cons_succ])
    refine wpAnyH_change (S2 := fun V => (convert 24 9 (.slice A8 P.length c8)).run Tryz.prog V = .ok (.string str) V) (fun _ _ => trivial) _ _ _ _ ?_
    have hHeld2 := HK8.out
    refine wpAnyH_take (i := 18) (v := ?_) (by simp only [List.getElem?_toArray, List.getElem?_cons_succ, List.getElem?_cons_zero]; rfl) (by kernel_rfl) (by kernel_rfl) (by kernel_rfl) (fun _ _ _ h => h) (Or.inl ⟨by rfl, ?_⟩) (by assumption) ?_
    rotate_left
    · intro w hSw; (try dsimp only at hSw); go_split_ands; go_simp; (try with_reducible rfl)
    (try simp only [Act.put, List.setIfInBounds_toArray, List.set_cons_zero, List.set_cons_succ])
    refine wpAnyH_ready (rs := [20]) (by kernel_rfl) (by simp) ?_
    refine AllReadyH.cons rfl (fun K hK => ?_) AllReadyH.nil
    go_simp
    refine (refPack_any A5 L.length c5 w8.heap.size L w8 rfl (by omega) (Nat.le_refl _) HOW8.out).mono ?_; rintro e w9 ⟨A9, c9, rfl, hown, hbel⟩; rw [HPK.out] at hown; rw [HPK.out]; have HO9 := Lib.hid (Cells.of_own hown); have HBEL9 := Lib.hid (HBEL8.out.trans (hbel.mono HBEL8.out.size)); have k9 := str_any w9 A9 P.length c9 _ P HO9.out rfl; rw [HSTR.out] at k9; have k10 := str_any w9 A8 P.length c8 _ P (HO8.out.below hbel (Nat.le_refl _)) rfl; rw [HSTR.out] at k10; have HK9 := Lib.hid k9; have HK10 := Lib.hid k10; have HO89 := Lib.hid ((HO8.out.below hbel (Nat.le_refl _)).more hbel.size); clear hown hbel k9 k10
    go_wp2_with fail
    refine hK.out _ _ HK10.out (fun hHeld => ?_)
    clear hK K
    (try simp only [Act.put, List.setIfInBounds_toArray, List.set_cons_zero, List.set_cons_succ])
    refine wpAnyH_change (S2 := fun V => (convert 24 9 (.slice A9 P.length c9)).run Tryz.prog V = .ok (.string str) V ∧ (convert 24 9 (.slice A8 P.length c8)).run Tryz.prog V = .ok (.string str) V) (fun _ h => h.2) _ _ _ _ ?_
    have hHeld2 := And.intro HK9.out HK10.out
    refine wpAnyH_take (i := 21) (v := ?_) (by simp only [List.getElem?_toArray, List.getElem?_cons_succ, List.getElem?_cons_zero]; rfl) (by kernel_rfl) (by kernel_rfl) (by kernel_rfl) (fun _ _ _ h => h) (Or.inl ⟨by rfl, ?_⟩) (by assumption) ?_
    rotate_left
    · intro w hSw; (try dsimp only at hSw); go_split_ands; go_simp; (try with_reducible rfl)
    (try simp only [Act.put, List.setIfInBounds_toArray, List.set_cons_zero, List.set_cons_succ])
    refine wpAnyH_take (i := 22) (v := ?_) (by simp only [List.getElem?_toArray, List.getElem?_cons_succ, List.getElem?_cons_zero]; rfl) (by kernel_rfl) (by kernel_rfl) (by kernel_rfl) (fun _ _ _ h => h) (Or.inl ⟨by rfl, ?_⟩) (by assumption) ?_
    rotate_left
    · intro w hSw; (try dsimp only at hSw); go_split_ands; go_simp; (try with_reducible rfl)
    (try simp only [Act.put, List.setIfInBounds_toArray, List.set_cons_zero, List.set_cons_succ])
    refine wpAnyH_take (i := 23) (v := ?_) (by simp only [List.getElem?_toArray, List.getElem?_cons_succ, List.getElem?_cons_zero]; rfl) (by kernel_rfl) (by kernel_rfl) (by kernel_rfl) (fun _ _ _ h => h) (Or.inl ⟨by rfl, ?_⟩) (by assumption) ?_
    rotate_left
    · intro w hSw; (try dsimp only at hSw); go_split_ands; go_simp; (try with_reducible rfl)
    (try simp only [Act.put, List.setIfInBounds_toArray, List.set_cons_zero, List.set_cons_succ])
    refine wpAnyH_take (i := 24) (v := ?_) (by simp only [List.getElem?_toArray, List.getElem?_cons_succ, List.getElem?_cons_zero]; rfl) (by kernel_rfl) (by kernel_rfl) (by kernel_rfl) (fun _ _ _ h => h) (Or.inl ⟨by rfl, ?_⟩) (by assumption) ?_
    rotate_left
    · intro w hSw; (try dsimp only at hSw); go_split_ands; go_simp; (try with_reducible rfl)
    (try simp only [Act.put, List.setIfInBounds_toArray, List.set_cons_zero, List.set_cons_succ])
    refine wpAnyH_ready (rs := [25]) (by kernel_rfl) (by simp) ?_
    refine AllReadyH.cons rfl (fun K hK => ?_) AllReadyH.nil
    go_simp
    refine (HLV.out _).mono ?_; rintro e w10 ⟨rfl, hb10⟩; have HB10 := Lib.hid hb10; have k9 := str_any w10 A9 P.length c9 _ P (HO9.out.below hb10 (Nat.le_refl _)) rfl; rw [HSTR.out] at k9; have k10 := str_any w10 A8 P.length c8 _ P (HO89.out.below hb10 (Nat.le_refl _)) rfl; rw [HSTR.out] at k10; have HK11 := Lib.hid k9; have HK12 := Lib.hid k10; clear hb10 k9 k10
    go_wp2_with fail
    refine hK.out _ _ (And.intro HK11.out HK12.out) (fun hHeld => ?_)
    clear hK K
    (try simp only [Act.put, List.setIfInBounds_toArray, List.set_cons_zero, List.set_cons_succ])
    refine wpAnyH_take (i := 26) (v := ?_) (by simp only [List.getElem?_toArray, List.getElem?_cons_succ, List.getElem?_cons_zero]; rfl) (by kernel_rfl) (by kernel_rfl) (by kernel_rfl) (fun _ _ _ h => h) (Or.inl ⟨by rfl, ?_⟩) (by assumption) ?_
    rotate_left
    · intro w hSw; (try dsimp only at hSw); go_split_ands; go_simp; (try with_reducible rfl)
    (try simp only [Act.put, List.setIfInBounds_toArray, List.set_cons_zero, List.set_cons_succ])
    refine wpAnyH_take (i := 27) (v := ?_) (by simp only [List.getElem?_toArray, List.getElem?_cons_succ, List.getElem?_cons_zero]; rfl) (by kernel_rfl) (by kernel_rfl) (by kernel_rfl) (fun _ _ _ h => h) (Or.inl ⟨by rfl, ?_⟩) (by assumption) ?_
    rotate_left
    · intro w hSw; (try dsimp only at hSw); go_split_ands; go_simp; (try with_reducible rfl)
    (try simp only [Act.put, List.setIfInBounds_toArray, List.set_cons_zero, List.set_cons_succ])
    refine wpAnyH_done (by kernel_rfl) (NoPanic.normal ?_) _
    go_wp2
    go_ret
    exact ⟨rfl, HBEL9.out.trans (HB10.out.mono HBEL9.out.size)⟩
  · have hb : Below w.heap.size w (w.alloc (.cells zeroWr 27)) := (Below.refl _ w).alloc (Nat.le_refl _) _
    have HB := Lib.hid hb
    have HWR : Hid (WrS (w.alloc (.cells zeroWr 27)) w.heap.size w.heap.size (oneB w.heap.size) []) := WrS.zero _ (heap_alloc_new w _)
    have HP := Lib.hid (blkput_no A l c w.heap.size (w.alloc (.cells zeroWr 27)) (weights_none (by omega) (h.below hb) hl))
    have HBT : Hid (∀ W, Below w.heap.size w W → _) := fun W hW => blkbits_no (c := c) (by omega) (h.below hW) hl
    rw [show decide (ts.length = l) = false from decide_eq_false hl] at HRI
    unfold zeroWr at HP HB HWR
    clear h hl hb
    go_enter Tryz.func3, Tryz.ntmps3
    go_wp2_with (first
      | (go_at_call 7; refine HP.out.mono ?_; clear HP; rintro e w2 ⟨rfl, hb2⟩; have HB2 := Lib.hid (HB.out.trans (hb2.mono HB.out.size)); have HW2 := Lib.hid (HWR.out.keep (Mod.of_below hb2) (fun _ _ h => h)); clear hb2)
      | (go_at_call 8; refine (HBT.out _ HB2.out).mono ?_; rintro e w3 ⟨rfl, hb3⟩; have HB3 := Lib.hid (HB2.out.trans (hb3.mono HB2.out.size)); have HW3 := Lib.hid (HW2.out.keep (Mod.of_below hb3) (fun _ _ h => h)); clear hb3)
      | (go_at_call 7; refine (HNIL.out _).mono ?_; rintro e w' ⟨rfl, rfl⟩)
      | (go_at_call 9; refine (HRI.out _ HB3.out).mono ?_; rintro e w4 ⟨rfl, hb4⟩; have HB4 := Lib.hid (HB3.out.trans (hb4.mono HB3.out.size)); have HW4 := Lib.hid (HW3.out.keep (Mod.of_below hb4) (fun _ _ h => h)); clear hb4)
      | (go_at_call 10; refine (wlen_any w.heap.size w.heap.size (oneB w.heap.size) [] w4 HW4.out (by simp)).mono ?_; rintro e w' ⟨rfl, n5, rfl⟩)
      | (go_at_call 6; refine (HLV.out _).mono ?_; rintro e w7 ⟨rfl, hb7⟩; have HB7 := Lib.hid hb7; clear hb7))
    go_ret
    exact ⟨rfl, (below_drewQ HB4.out n5).trans (HB7.out.mono HB4.out.size)⟩
end Go.Proofs.YtgbbdgoleiolhaaGreat
/- Layer 13: what is put is taken: the law. -/
namespace Go.Proofs.YtgbbdgoleiolhaaGreat
open Go.RowKit BitsP SymP
attribute [local go_sem ↓] Go.wp_at_zero Go.wp_at_succ

theorem cells_one {w w' : World} {B g : Nat} {A : Option Addr} {xs : List Value} (h : Cells w B A xs) (hm : Mod (oneB g) w w') (hB : B ≤ g) (hg : g < w.heap.size) : Cells w' B A xs :=
  h.below (B' := B) ⟨hm.os, hm.tape, hm.output, hm.size, fun k hk => hm.block k (by omega) (fun h3 => by have h4 : k = g := h3; omega)⟩ (Nat.le_refl _)
set_option maxRecDepth 100000 in
set_option maxHeartbeats 2000000 in
theorem bback_gen (F : List Int → List Bool → Int × Int × Nat) (hF : FunT F) (A : Option Addr) (l c : Nat) (bs : List UInt8) (lv n : Int) (w : World) (hl : bs.length = l) (hcap : l ≤ c) (h3 : l ≤ 1500) (n0 : 0 ≤ n) (n1 : n < 4294967296) (hb : Bytes w w.heap.size A bs) (u0 : Bool) (hu0 : ((l : Int) == 0) = u0)
    (er2 : Int) (ts2 : List Tk) (p2 : Nat) (h2 : blkF F (unpack (pack (blkB (toks bs lv 0) ++ bitsOf n.toNat 32))) 0 ((l : Int) - 1) = (er2, ts2, p2)) (h5 : u0 = true ∨ er2 = 5) :
    Calls Tryz.prog 5 #[.slice A l c, .int .i64 lv, .int .u32 n] w fun e w' => e = .returned (.bool true) ∧ Below w.heap.size w w' := by
  have HLV := Lib.hid lives13_any
  have hok := toks_okT bs lv bs.length 0 (by omega)
  have hgood := toks_good bs lv bs.length 0 (by omega)
  have hfew := toks_few bs lv
  have HSP := Lib.hid (split_any A l c bs lv w hl (by omega) hcap hb)
  have t0 : decide ((1500 : Int) < (l : Int)) = false := decide_eq_false (by omega)
  obtain ⟨ts, hts⟩ : ∃ ts, toks bs lv 0 = ts := ⟨_, rfl⟩
  rw [hts] at hok hgood hfew HSP h2
  have hlenB := blkB_few hok
  have HPF : Hid (∀ (W : World) (A2 : Option Addr) (c2 : Nat), Cells W W.heap.size A2 (ts.map tkC).flatten → _) := fun W A2 c2 hW => put_fresh2 (c := c2) (by omega) (toksOf_tk hok hW) rfl
  have hun := pack_unpack (blkB ts ++ bitsOf n.toNat 32)
  have hL2 : (blkB ts ++ bitsOf n.toNat 32).length ≤ 300000 := by rw [List.length_append, bitsOf_length]; omega
  have HP2 := pack_length (blkB ts ++ bitsOf n.toNat 32)
  obtain ⟨bs2, hbs2⟩ : ∃ bs2, pack (blkB ts ++ bitsOf n.toNat 32) = bs2 := ⟨_, rfl⟩
  rw [hbs2] at hun h2 HP2
  have h1 : blkF F (unpack bs2) 0 (l : Int) = (0, ts, 0 + (blkB ts).length) := by
    have h := blkF_back hF hok (most := (l : Int)) (by rw [← hl]; exact hgood) (L := unpack bs2) (R := bitsOf n.toNat 32 ++ zeros (lack (blkB ts ++ bitsOf n.toNat 32).length)) (p := 0) (by rw [List.drop_zero, hun, List.append_assoc])
    exact h
  rw [Nat.zero_add] at h1
  have HTK : Hid (∀ (most : Int) (W : World) (base g : Nat) (S : Nat → Prop), -9223372036854775808 ≤ most → most ≤ 9223372036854775807 → RdS W g base S bs2 0 → _) := fun most W base g S m0 m1 hW => blktake_any F hF g base S bs2 0 most W hW (by omega) m0 m1
  have HT1 := Lib.hid (HTK.out (l : Int))
  have HT2 := Lib.hid (HTK.out ((l : Int) - 1))
  rw [h1] at HT1
  rw [h2] at HT2
  have HBS := Lib.hid hbs2
  obtain ⟨k, hk⟩ : ∃ k, ts.length = k := ⟨_, rfl⟩
  have HK := Lib.hid hk
  rw [hk] at HSP hlenB
  have hk15 : k ≤ 1500 := by omega
  obtain ⟨bl, hbl⟩ : ∃ bl, (blkB ts).length = bl := ⟨_, rfl⟩
  have HBL := Lib.hid hbl
  rw [hbl] at HT1 hlenB
  have hsub : IntKind.i64.wrap ((l : Int) - 1) = (l : Int) - 1 := IntWalk.i64_in _ (by omega)
  unfold zeroWr at HPF
  clear hok hgood hfew hts hun hbs2 h1 h2 hk hl hb hbl HTK
  cases u0 with
  | true =>
    clear h5
    go_enter Tryz.func5, Tryz.ntmps5
    go_wp2_with (first
      | (go_at_call 20; refine HSP.out.mono ?_; rintro e w2 ⟨A2, c2, rfl, hc2, hb2⟩; have HC2 := Lib.hid hc2; have HB2 := Lib.hid hb2; have HPT := Lib.hid (HPF.out w2 A2 c2 hc2); rw [HK.out] at HPT; clear hc2 hb2)
      | (go_at_call 7; refine HPT.out.mono ?_; rintro e w3 ⟨rfl, S3, hw3, hb3, hs3⟩; have HW3 := Lib.hid hw3; have HB3 := Lib.hid hb3; have HS3 := Lib.hid hs3; clear hw3 hb3 hs3)
      | (go_at_call 10; refine (wlen_any w2.heap.size w2.heap.size S3 (blkB ts) w3 HW3.out (by rw [HBL.out]; omega)).mono ?_; rintro e w' ⟨rfl, nd, rfl⟩; rw [HBL.out])
      | (go_at_call 21; refine (wput_any w2.heap.size w2.heap.size S3 (blkB ts) n 32 (w3.drewN nd) HW3.out (by rw [HBL.out]; omega) HB3.out.size n0 n1 (by omega) (by omega)).mono ?_; rintro e w5 ⟨rfl, S5, hw5, hm5, hs5⟩; rw [show cnt 32 = 32 from rfl] at hw5; have HW5 := Lib.hid hw5; have HB5 := Lib.hid (hm5.below (below_drewQ HB3.out nd) HB3.out.size HS3.out); clear hw5 hm5 hs5)
      | (go_at_call 12; refine (wbytes_any w2.heap.size w2.heap.size S5 _ w5 HW5.out (by omega)).mono ?_; rintro e w6 ⟨A6, c6, rfl, hown6, hb6⟩; rw [HBS.out] at hown6; rw [HBS.out]; have HY6 := Lib.hid (Cells.of_own hown6); have HB6 := Lib.hid (HB5.out.trans (hb6.mono HB5.out.size)); have HW6 := Lib.hid (HW5.out.keep (Mod.of_below hb6) (fun _ _ h => h)); clear hown6 hb6)
      | (go_at_call 14; refine (rnew_any A6 bs2.length c6 w6.heap.size bs2 w6 rfl (by omega) (Nat.le_refl _) HY6.out).mono ?_; rintro e w7 ⟨g, S7, rfl, hrd7, hb7, hS7⟩; have HR7 := Lib.hid hrd7; have HB7 := Lib.hid (HB6.out.trans (hb7.mono HB6.out.size)); have HW7 := Lib.hid (HW6.out.keep (Mod.of_below hb7) (fun _ _ h => h)); have HG7 : Hid (w6.heap.size ≤ g ∧ ∀ k, S7 k → w6.heap.size ≤ k) := ⟨hS7 g (rd_low hrd7).2.2, hS7⟩; have HL7 : Hid (∀ k, S7 k → k < w7.heap.size) := hrd7.lt; clear HY6 hrd7 hb7 hS7)
      | (go_at_call 15; refine (HT1.out w7 w6.heap.size g S7 (by omega) (by omega) HR7.out).mono ?_; clear HT1; rintro e w8 ⟨A8, c8, p8, t8, rfl, rfl, hown8, hrd8, hpe8, hm8⟩; dsimp only at hown8 hpe8; dsimp only; obtain rfl := hpe8 rfl; have HC8 := Lib.hid (show Cells w8 w8.heap.size A8 (ts.map tkC).flatten from (by rw [tk_cellsB]; exact cells_of_own7 hown8)); rw [HK.out]; have HR8 := Lib.hid hrd8; have HB8 := Lib.hid (hm8.below HB7.out HB7.out.size (fun k hk => by cases hk; have := HG7.out.1; have := HB6.out.size; omega)); have HW8 := Lib.hid (HW7.out.keep hm8 (fun k hk h => by have h2 : k = g := h; have := HW6.out.lt k hk; have := HG7.out.1; omega)); have HC28 := Lib.hid (HC2.out.below HB8.out (Nat.le_refl _)); clear hown8 hrd8 hpe8 hm8)
      | (go_at_call 12; refine (wbytes_any w2.heap.size w2.heap.size S5 _ w8 HW8.out (by omega)).mono ?_; rintro e w9 ⟨A9, c9, rfl, hown9, hb9⟩; rw [HBS.out] at hown9; rw [HBS.out]; have HY9 := Lib.hid (Cells.of_own hown9); have HB9 := Lib.hid (HB8.out.trans (hb9.mono HB8.out.size)); have HR9 := Lib.hid (HR8.out.keep (Mod.of_below hb9) (fun _ _ h => h)); have HC89 := Lib.hid (HC8.out.below hb9 (Nat.le_refl _)); have HC29 := Lib.hid (HC28.out.below hb9 HB8.out.size); have HS89 := Lib.hid hb9.size; clear hown9 hb9)
      | (go_at_call 14; refine (rnew_any A9 bs2.length c9 w9.heap.size bs2 w9 rfl (by omega) (Nat.le_refl _) HY9.out).mono ?_; rintro e w10 ⟨g2, S10, rfl, hrd10, hb10, hS10⟩; have HR10 := Lib.hid hrd10; have HB10 := Lib.hid (HB9.out.trans (hb10.mono HB9.out.size)); have HR7x := Lib.hid (HR9.out.keep (Mod.of_below hb10) (fun _ _ h => h)); have HC8x := Lib.hid (HC89.out.below hb10 HS89.out); have HC2x := Lib.hid (HC29.out.below hb10 HB9.out.size); have HG10 : Hid (w9.heap.size ≤ g2) := hS10 g2 (rd_low hrd10).2.2; clear hrd10 hb10 hS10)
      | (go_at_call 15; refine (HT2.out w10 w9.heap.size g2 S10 (by omega) (by omega) HR10.out).mono ?_; rintro e w11 ⟨A11, c11, p11, t11, rfl, rfl, _, _, _, hm11⟩; dsimp only; have hr11 := HR7x.out.keep hm11 (fun k hk h => by have h2 : k = g2 := h; have h3 := HG10.out; have h4 := HR9.out.lt k hk; omega); have HR11 := Lib.hid hr11; have HB11 := Lib.hid (hm11.below HB10.out HB10.out.size (fun k hk => by cases hk; have := HG10.out; have := HB9.out.size; omega)); have HC811 := Lib.hid (cells_one HC8x.out hm11 (Nat.le_trans HS89.out HG10.out) (rd_low HR10.out).1); have HC211 := Lib.hid (cells_one HC2x.out hm11 (Nat.le_trans HB9.out.size HG10.out) (rd_low HR10.out).1); clear hm11 hr11)
      | (go_at_call 18; refine (same_any A8 A2 k c8 c2 _ _ ts w11 HK.out (by omega) HC811.out HC211.out).mono ?_; rintro e w12 ⟨rfl, hb12⟩; have HB12 := Lib.hid (HB11.out.trans (hb12.mono HB11.out.size)); have HR12 := Lib.hid (HR11.out.keep (Mod.of_below hb12) (fun _ _ h => h)); clear hb12)
      | (go_at_call 19; refine (rat_any g w6.heap.size S7 bs2 _ w12 HR12.out).mono ?_; rintro e w' ⟨rfl, rfl⟩)
      | (go_at_call 6; refine (HLV.out _).mono ?_; rintro e w13 ⟨rfl, hb13⟩; have HB13 := Lib.hid (HB12.out.trans (hb13.mono HB12.out.size)); clear hb13))
    go_ret
    exact ⟨rfl, HB2.out.trans (HB13.out.mono HB2.out.size)⟩
  | false =>
    obtain rfl : er2 = 5 := by simpa using h5
    clear h5
    go_enter Tryz.func5, Tryz.ntmps5
    go_wp2_with (first
      | (go_at_call 20; refine HSP.out.mono ?_; rintro e w2 ⟨A2, c2, rfl, hc2, hb2⟩; have HC2 := Lib.hid hc2; have HB2 := Lib.hid hb2; have HPT := Lib.hid (HPF.out w2 A2 c2 hc2); rw [HK.out] at HPT; clear hc2 hb2)
      | (go_at_call 7; refine HPT.out.mono ?_; rintro e w3 ⟨rfl, S3, hw3, hb3, hs3⟩; have HW3 := Lib.hid hw3; have HB3 := Lib.hid hb3; have HS3 := Lib.hid hs3; clear hw3 hb3 hs3)
      | (go_at_call 10; refine (wlen_any w2.heap.size w2.heap.size S3 (blkB ts) w3 HW3.out (by rw [HBL.out]; omega)).mono ?_; rintro e w' ⟨rfl, nd, rfl⟩; rw [HBL.out])
      | (go_at_call 21; refine (wput_any w2.heap.size w2.heap.size S3 (blkB ts) n 32 (w3.drewN nd) HW3.out (by rw [HBL.out]; omega) HB3.out.size n0 n1 (by omega) (by omega)).mono ?_; rintro e w5 ⟨rfl, S5, hw5, hm5, hs5⟩; rw [show cnt 32 = 32 from rfl] at hw5; have HW5 := Lib.hid hw5; have HB5 := Lib.hid (hm5.below (below_drewQ HB3.out nd) HB3.out.size HS3.out); clear hw5 hm5 hs5)
      | (go_at_call 12; refine (wbytes_any w2.heap.size w2.heap.size S5 _ w5 HW5.out (by omega)).mono ?_; rintro e w6 ⟨A6, c6, rfl, hown6, hb6⟩; rw [HBS.out] at hown6; rw [HBS.out]; have HY6 := Lib.hid (Cells.of_own hown6); have HB6 := Lib.hid (HB5.out.trans (hb6.mono HB5.out.size)); have HW6 := Lib.hid (HW5.out.keep (Mod.of_below hb6) (fun _ _ h => h)); clear hown6 hb6)
      | (go_at_call 14; refine (rnew_any A6 bs2.length c6 w6.heap.size bs2 w6 rfl (by omega) (Nat.le_refl _) HY6.out).mono ?_; rintro e w7 ⟨g, S7, rfl, hrd7, hb7, hS7⟩; have HR7 := Lib.hid hrd7; have HB7 := Lib.hid (HB6.out.trans (hb7.mono HB6.out.size)); have HW7 := Lib.hid (HW6.out.keep (Mod.of_below hb7) (fun _ _ h => h)); have HG7 : Hid (w6.heap.size ≤ g ∧ ∀ k, S7 k → w6.heap.size ≤ k) := ⟨hS7 g (rd_low hrd7).2.2, hS7⟩; have HL7 : Hid (∀ k, S7 k → k < w7.heap.size) := hrd7.lt; clear HY6 hrd7 hb7 hS7)
      | (go_at_call 15; refine (HT1.out w7 w6.heap.size g S7 (by omega) (by omega) HR7.out).mono ?_; clear HT1; rintro e w8 ⟨A8, c8, p8, t8, rfl, rfl, hown8, hrd8, hpe8, hm8⟩; dsimp only at hown8 hpe8; dsimp only; obtain rfl := hpe8 rfl; have HC8 := Lib.hid (show Cells w8 w8.heap.size A8 (ts.map tkC).flatten from (by rw [tk_cellsB]; exact cells_of_own7 hown8)); rw [HK.out]; have HR8 := Lib.hid hrd8; have HB8 := Lib.hid (hm8.below HB7.out HB7.out.size (fun k hk => by cases hk; have := HG7.out.1; have := HB6.out.size; omega)); have HW8 := Lib.hid (HW7.out.keep hm8 (fun k hk h => by have h2 : k = g := h; have := HW6.out.lt k hk; have := HG7.out.1; omega)); have HC28 := Lib.hid (HC2.out.below HB8.out (Nat.le_refl _)); clear hown8 hrd8 hpe8 hm8)
      | (go_at_call 12; refine (wbytes_any w2.heap.size w2.heap.size S5 _ w8 HW8.out (by omega)).mono ?_; rintro e w9 ⟨A9, c9, rfl, hown9, hb9⟩; rw [HBS.out] at hown9; rw [HBS.out]; have HY9 := Lib.hid (Cells.of_own hown9); have HB9 := Lib.hid (HB8.out.trans (hb9.mono HB8.out.size)); have HR9 := Lib.hid (HR8.out.keep (Mod.of_below hb9) (fun _ _ h => h)); have HC89 := Lib.hid (HC8.out.below hb9 (Nat.le_refl _)); have HC29 := Lib.hid (HC28.out.below hb9 HB8.out.size); have HS89 := Lib.hid hb9.size; clear hown9 hb9)
      | (go_at_call 14; refine (rnew_any A9 bs2.length c9 w9.heap.size bs2 w9 rfl (by omega) (Nat.le_refl _) HY9.out).mono ?_; rintro e w10 ⟨g2, S10, rfl, hrd10, hb10, hS10⟩; have HR10 := Lib.hid hrd10; have HB10 := Lib.hid (HB9.out.trans (hb10.mono HB9.out.size)); have HR7x := Lib.hid (HR9.out.keep (Mod.of_below hb10) (fun _ _ h => h)); have HC8x := Lib.hid (HC89.out.below hb10 HS89.out); have HC2x := Lib.hid (HC29.out.below hb10 HB9.out.size); have HG10 : Hid (w9.heap.size ≤ g2) := hS10 g2 (rd_low hrd10).2.2; clear hrd10 hb10 hS10)
      | (go_at_call 15; refine (HT2.out w10 w9.heap.size g2 S10 (by omega) (by omega) HR10.out).mono ?_; rintro e w11 ⟨A11, c11, p11, t11, rfl, rfl, _, _, _, hm11⟩; dsimp only; have hr11 := HR7x.out.keep hm11 (fun k hk h => by have h2 : k = g2 := h; have h3 := HG10.out; have h4 := HR9.out.lt k hk; omega); have HR11 := Lib.hid hr11; have HB11 := Lib.hid (hm11.below HB10.out HB10.out.size (fun k hk => by cases hk; have := HG10.out; have := HB9.out.size; omega)); have HC811 := Lib.hid (cells_one HC8x.out hm11 (Nat.le_trans HS89.out HG10.out) (rd_low HR10.out).1); have HC211 := Lib.hid (cells_one HC2x.out hm11 (Nat.le_trans HB9.out.size HG10.out) (rd_low HR10.out).1); clear hm11 hr11)
      | (go_at_call 18; refine (same_any A8 A2 k c8 c2 _ _ ts w11 HK.out (by omega) HC811.out HC211.out).mono ?_; rintro e w12 ⟨rfl, hb12⟩; have HB12 := Lib.hid (HB11.out.trans (hb12.mono HB11.out.size)); have HR12 := Lib.hid (HR11.out.keep (Mod.of_below hb12) (fun _ _ h => h)); clear hb12)
      | (go_at_call 19; refine (rat_any g w6.heap.size S7 bs2 _ w12 HR12.out).mono ?_; rintro e w' ⟨rfl, rfl⟩)
      | (go_at_call 6; refine (HLV.out _).mono ?_; rintro e w13 ⟨rfl, hb13⟩; have HB13 := Lib.hid (HB12.out.trans (hb13.mono HB12.out.size)); clear hb13))
    go_ret
    exact ⟨rfl, HB2.out.trans (HB13.out.mono HB2.out.size)⟩
theorem bback_law (A : Option Addr) (l c : Nat) (bs : List UInt8) (lv n : Int) (w : World) (hl : bs.length = l) (hcap : l ≤ c) (n0 : 0 ≤ n) (n1 : n < 4294967296) (hb : Bytes w w.heap.size A bs) :
    Calls Tryz.prog 5 #[.slice A l c, .int .i64 lv, .int .u32 n] w fun e w' => e = .returned (.bool true) ∧ Below w.heap.size w w' := by
  by_cases h3 : 1500 < l
  · have HLV := Lib.hid lives13_any
    clear hb hl
    go_enter Tryz.func5, Tryz.ntmps5
    go_wp2_with (go_at_call 6; refine (HLV.out _).mono ?_; rintro e w4 ⟨rfl, hb4⟩; have HB4 := Lib.hid hb4; clear hb4)
    go_ret
    exact ⟨rfl, HB4.out⟩
  obtain ⟨F, hF⟩ := funT_ex
  by_cases h0 : l = 0
  · obtain ⟨⟨er2, ts2, p2⟩, h2⟩ : ∃ T, blkF F (unpack (pack (blkB (toks bs lv 0) ++ bitsOf n.toNat 32))) 0 ((l : Int) - 1) = T := ⟨_, rfl⟩
    exact bback_gen F hF A l c bs lv n w hl hcap (by omega) n0 n1 hb true (by simp [h0]) er2 ts2 p2 h2 (.inl rfl)
  · have hun := pack_unpack (blkB (toks bs lv 0) ++ bitsOf n.toNat 32)
    have htoo := toks_too bs lv bs.length 0 (by omega) (by omega)
    rw [hl] at htoo
    have h2 := blkF_too hF (toks_okT bs lv bs.length 0 (by omega)) htoo (L := unpack (pack (blkB (toks bs lv 0) ++ bitsOf n.toNat 32))) (R := bitsOf n.toNat 32 ++ zeros (lack (blkB (toks bs lv 0) ++ bitsOf n.toNat 32).length)) (p := 0) (by rw [List.drop_zero, hun, List.append_assoc])
    exact bback_gen F hF A l c bs lv n w hl hcap (by omega) n0 n1 hb false (by simp; omega) 5 [] 0 h2 (.inr rfl)
end Go.Proofs.YtgbbdgoleiolhaaGreat
