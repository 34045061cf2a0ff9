/- Layer 13: the bits of a block: the law. -/
import Derived.Test.YtgbbdgoleiolhaaGreatMgBlockPuts46
import Derived.Test.YtgbbdgoleiolhaaGreatMgBlockPuts48
import Derived.Deep.RegionHeld3
namespace Go.Proofs.YtgbbdgoleiolhaaGreat
open Go.RowKit BitsP SymP
attribute [local go_sem ↓] Go.wp_at_zero Go.wp_at_succ

/-- Behind a world S may be changed. -/
theorem wpAnyH_change {P : Program} {md : Region.Mode} {ops : Array Oper} {Q : Exit → Act → World → Prop} {S S2 : World → Prop} (hS : ∀ V, S2 V → S V) : ∀ (fuel : Nat) (listed : Array Bool) (a : Act) (w : World), wpAnyH P md ops Q S2 fuel listed a w → wpAnyH P md ops Q S fuel listed a w
  | 0, _, _, _, h => h
  | fuel + 1, _, _, _, h => ⟨h.1, fun i hi => wpOp_mono (fun a' w' h' => ⟨hS _ h'.1, wpAnyH_change hS fuel _ a' w' h'.2⟩) (h.2 i hi)⟩
theorem below_drewQ {B : Nat} {a w : World} (h : Below B a w) (n : Nat) : Below B a (w.drewN n) := ⟨h.os, h.tape, h.output, h.size, h.block⟩
theorem tkAt_low {w : World} {A : Option Addr} {k : Nat} {y l d : Int} (h : TkAt w A k y l d) : ∀ a, A = some a → a.block < w.heap.size := fun a ha => by
  obtain ⟨b, o, h1, h2, _⟩ := h
  rw [h1] at ha
  cases ha
  exact h2
theorem toksOf_low {w : World} {A : Option Addr} {l : Nat} {ts : List Tk} (h : ToksOf w A l ts) (hl : ts.length = l) (h0 : 0 < l) : ∀ a, A = some a → a.block < w.heap.size := fun a ha => by
  obtain ⟨t, ht⟩ : ∃ t, ts[0]? = some t := ⟨_, List.getElem?_eq_getElem (by omega)⟩
  exact tkAt_low (h.2.1 0 t ht) a ha
/-- A block is put by a fresh writer. -/
theorem put_fresh {A : Option Addr} {l c : Nat} {ts : List Tk} {w : World} (hm : l ≤ 65536) (h : ToksOf w A l ts) (hl : ts.length = l) :
    Calls Tryz.prog 7 #[.pointer (some ⟨w.heap.size, 0, none⟩), .slice A l c] (w.alloc (.cells zeroWr 27)) fun e w' => e = .returned (.int .i64 0) ∧ ∃ S', WrS w' w.heap.size w.heap.size S' (blkB ts) ∧ Below w.heap.size w w' := by
  have hb : Below w.heap.size w (w.alloc (.cells zeroWr 27)) := (Below.refl _ w).alloc (Nat.le_refl _) _
  refine (blkput_any A l c w.heap.size w.heap.size ts (oneB w.heap.size) [] (w.alloc (.cells zeroWr 27)) hl hm h.1 (h.below hb).2.1 (fun h0 a ha hk => by
    have h2 := toksOf_low h hl h0 a ha
    have h3 : a.block = w.heap.size := hk
    omega) (WrS.zero _ (heap_alloc_new w _)) (by simp) (by simp)).mono ?_
  rintro e w' ⟨h1, S', h2, h3, _⟩
  exact ⟨h1, S', by simpa using h2, h3.below hb (by simp) (fun k hk => by cases hk; exact Nat.le_refl _)⟩
set_option maxHeartbeats 400000 in
theorem blkbits_yes {A : Option Addr} {l c : Nat} {ts : List Tk} {w : World} (hm : l ≤ 65536) (h : ToksOf w A l ts) (hl : ts.length = l) :
    Calls Tryz.prog 8 #[.slice A l c] w fun e w' => e = .returned (.tuple #[.int .i64 ((blkB ts).length : Nat), .bool true]) ∧ Below w.heap.size w w' := by
  have HP := Lib.hid (put_fresh (c := c) hm h hl)
  have hf := blkB_few h.1
  unfold zeroWr at HP
  clear h
  go_enter Tryz.func8, Tryz.ntmps8
  go_wp2_with (first
    | (go_at_call 7; refine HP.out.mono ?_; rintro e w2 ⟨rfl, S2, hw2, hb2⟩; have HW2 := Lib.hid hw2; have HB2 := Lib.hid hb2; clear hw2 hb2)
    | (go_at_call 10; refine (wlen_any w.heap.size w.heap.size S2 (blkB ts) w2 HW2.out (by omega)).mono ?_; rintro e w' ⟨rfl, n3, rfl⟩))
  go_ret2
  exact ⟨rfl, below_drewQ HB2.out n3⟩
set_option maxHeartbeats 400000 in
theorem blkbits_no {A : Option Addr} {l c : Nat} {ts : List Tk} {w : World} (hm : l ≤ 65536) (h : ToksOf w A l ts) (hl : ts.length ≠ l) :
    Calls Tryz.prog 8 #[.slice A l c] w fun e w' => e = .returned (.tuple #[.int .i64 0, .bool false]) ∧ Below w.heap.size w w' := by
  have hb : Below w.heap.size w (w.alloc (.cells zeroWr 27)) := (Below.refl _ w).alloc (Nat.le_refl _) _
  have HB := Lib.hid hb
  have HP := Lib.hid (blkput_no A l c w.heap.size (w.alloc (.cells zeroWr 27)) (weights_none hm (h.below hb) hl))
  unfold zeroWr at HP HB
  clear h hb
  go_enter Tryz.func8, Tryz.ntmps8
  go_wp2_with (go_at_call 7; refine HP.out.mono ?_; rintro e w2 ⟨rfl, hb2⟩; have HB2 := Lib.hid (HB.out.trans (hb2.mono HB.out.size)); clear hb2)
  go_ret2
  exact ⟨rfl, HB2.out⟩
set_option linter.unusedSimpArgs false in
set_option maxRecDepth 100000 in
set_option maxHeartbeats 2000000 in
theorem bputs_law (A : Option Addr) (l c : Nat) (ts : List Tk) (w : World) (hm : l ≤ 9223372036854775807) (h : ToksOf w A l ts) :
    Calls Tryz.prog 3 #[.slice A l c] w fun e w' => e = .returned (.bool true) ∧ Below w.heap.size w w' := by
  have HLV := Lib.hid lives13_any
  by_cases h3 : 300 < l
  · clear h
    go_enter Tryz.func3, Tryz.ntmps3
    go_wp2_with (go_at_call 6; refine (HLV.out _).mono ?_; rintro e w4 ⟨rfl, hb4⟩; have HB4 := Lib.hid hb4; clear hb4)
    go_ret
    exact ⟨rfl, HB4.out⟩
  have t0 : decide ((300 : Int) < (l : Int)) = false := decide_eq_false (by omega)
  have HNIL := Lib.hid (fun W : World => blkput_nil (.slice A l c) W)
  have HRI : Hid (∀ W, Below w.heap.size w W → _) := fun W hW => rright13_any A l c ts W (by omega) (h.below hW).1 (h.below hW).2.1 (h.below hW).2.2
  by_cases hl : ts.length = l
  · have HP := Lib.hid (put_fresh (c := c) (by omega) h hl)
    have HBT : Hid (∀ W, Below w.heap.size w W → _) := fun W hW => blkbits_yes (c := c) (by omega) (h.below hW) hl
    have HRP : Hid (∀ W, Below w.heap.size w W → _) := fun W hW => rput13_any A l c ts W hl (by omega) (h.below hW).1 (h.below hW).2.1
    rw [show decide (ts.length = l) = true from decide_eq_true hl] at HRI
    have hfew := blkB_few h.1
    obtain ⟨L, hL⟩ : ∃ L, blkB ts = L := ⟨_, rfl⟩
    rw [hL] at HP HRP HBT hfew
    have HPL : Hid ((pack L).length ≤ L.length) := pack_length L
    obtain ⟨P, hP⟩ : ∃ P, pack L = P := ⟨_, rfl⟩
    obtain ⟨str, hS⟩ : ∃ str : ByteArray, (⟨P.toArray⟩ : ByteArray) = str := ⟨_, rfl⟩
    have HPK := Lib.hid hP
    have HSTR := Lib.hid hS
    have hTL : L.length ≤ 300000 := by omega
    unfold zeroWr at HP
    clear h hl hL hP hS hfew
    go_enter Tryz.func3, Tryz.ntmps3
    go_wp2_with (first
      | (go_at_call 7; refine HP.out.mono ?_; clear HP; rintro e w2 ⟨rfl, S2, hw2, hb2⟩; have HW2 := Lib.hid hw2; have HB2 := Lib.hid hb2; clear hw2 hb2)
      | (go_at_call 8; refine (HBT.out _ HB2.out).mono ?_; rintro e w3 ⟨rfl, hb3⟩; have HB3 := Lib.hid (HB2.out.trans (hb3.mono HB2.out.size)); have HW3 := Lib.hid (HW2.out.keep (Mod.of_below hb3) (fun _ _ h => h)); clear hb3)
      | (go_at_call 7; refine (HNIL.out _).mono ?_; rintro e w' ⟨rfl, rfl⟩)
      | (go_at_call 9; refine (HRI.out _ HB3.out).mono ?_; rintro e w4 ⟨rfl, hb4⟩; have HB4 := Lib.hid (HB3.out.trans (hb4.mono HB3.out.size)); have HW4 := Lib.hid (HW3.out.keep (Mod.of_below hb4) (fun _ _ h => h)); clear hb4)
      | (go_at_call 11; refine (HRP.out _ HB4.out).mono ?_; rintro e w5 ⟨A5, c5, rfl, hown5, hb5⟩; have HB5 := Lib.hid (HB4.out.trans (hb5.mono HB4.out.size)); have HW5 := Lib.hid (HW4.out.keep (Mod.of_below hb5) (fun _ _ h => h)); have HO5 := Lib.hid hown5; clear hown5 hb5))
    go_upto_region 11 with fail
    refine wp_region_noPanic (wp_region_held_drew (S := fun _ => True) (by kernel_rfl) trivial (fun hHeld => ?_))
    (try simp only [Act.put, List.setIfInBounds_toArray, List.set_cons_zero, List.set_cons_succ])
    refine wpAnyH_take (i := 0) (v := ?_) (by simp only [List.getElem?_toArray, List.getElem?_cons_succ, List.getElem?_cons_zero]; rfl) (by kernel_rfl) (by kernel_rfl) (by kernel_rfl) (fun _ _ _ h => h) (Or.inl ⟨by rfl, ?_⟩) (by assumption) ?_
    rotate_left
    · intro w hSw; (try dsimp only at hSw); go_split_ands; go_simp; (try with_reducible rfl)
    (try simp only [Act.put, List.setIfInBounds_toArray, List.set_cons_zero, List.set_cons_succ])
    refine wpAnyH_take (i := 1) (v := ?_) (by simp only [List.getElem?_toArray, List.getElem?_cons_succ, List.getElem?_cons_zero]; rfl) (by kernel_rfl) (by kernel_rfl) (by kernel_rfl) (fun _ _ _ h => h) (Or.inl ⟨by rfl, ?_⟩) (by assumption) ?_
    rotate_left
    · intro w hSw; (try dsimp only at hSw); go_split_ands; go_simp; (try with_reducible rfl)
    (try simp only [Act.put, List.setIfInBounds_toArray, List.set_cons_zero, List.set_cons_succ])
    refine wpAnyH_take (i := 2) (v := ?_) (by simp only [List.getElem?_toArray, List.getElem?_cons_succ, List.getElem?_cons_zero]; rfl) (by kernel_rfl) (by kernel_rfl) (by kernel_rfl) (fun _ _ _ h => h) (Or.inl ⟨by rfl, ?_⟩) (by assumption) ?_
    rotate_left
    · intro w hSw; (try dsimp only at hSw); go_split_ands; go_simp; (try with_reducible rfl)
    (try simp only [Act.put, List.setIfInBounds_toArray, List.set_cons_zero, List.set_cons_succ])
    refine wpAnyH_take (i := 3) (v := ?_) (by simp only [List.getElem?_toArray, List.getElem?_cons_succ, List.getElem?_cons_zero]; rfl) (by kernel_rfl) (by kernel_rfl) (by kernel_rfl) (fun _ _ _ h => h) (Or.inl ⟨by rfl, ?_⟩) (by assumption) ?_
    rotate_left
    · intro w hSw; (try dsimp only at hSw); go_split_ands; go_simp; (try with_reducible rfl)
    (try simp only [Act.put, List.setIfInBounds_toArray, List.set_cons_zero, List.set_cons_succ])
    refine wpAnyH_take (i := 4) (v := ?_) (by simp only [List.getElem?_toArray, List.getElem?_cons_succ, List.getElem?_cons_zero]; rfl) (by kernel_rfl) (by kernel_rfl) (by kernel_rfl) (fun _ _ _ h => h) (Or.inl ⟨by rfl, ?_⟩) (by assumption) ?_
    rotate_left
    · intro w hSw; (try dsimp only at hSw); go_split_ands; go_simp; (try with_reducible rfl)
    (try simp only [Act.put, List.setIfInBounds_toArray, List.set_cons_zero, List.set_cons_succ])
    refine wpAnyH_take (i := 5) (v := ?_) (by simp only [List.getElem?_toArray, List.getElem?_cons_succ, List.getElem?_cons_zero]; rfl) (by kernel_rfl) (by kernel_rfl) (by kernel_rfl) (fun _ _ _ h => h) (Or.inl ⟨by rfl, ?_⟩) (by assumption) ?_
    rotate_left
    · intro w hSw; (try dsimp only at hSw); go_split_ands; go_simp; (try with_reducible rfl)
    (try simp only [Act.put, List.setIfInBounds_toArray, List.set_cons_zero, List.set_cons_succ])
    refine wpAnyH_take (i := 6) (v := ?_) (by simp only [List.getElem?_toArray, List.getElem?_cons_succ, List.getElem?_cons_zero]; rfl) (by kernel_rfl) (by kernel_rfl) (by kernel_rfl) (fun _ _ _ h => h) (Or.inl ⟨by rfl, ?_⟩) (by assumption) ?_
    rotate_left
    · intro w hSw; (try dsimp only at hSw); go_split_ands; go_simp; (try with_reducible rfl)
    (try simp only [Act.put, List.setIfInBounds_toArray, List.set_cons_zero, List.set_cons_succ])
    refine wpAnyH_take (i := 7) (v := ?_) (by simp only [List.getElem?_toArray, List.getElem?_cons_succ, List.getElem?_cons_zero]; rfl) (by kernel_rfl) (by kernel_rfl) (by kernel_rfl) (fun _ _ _ h => h) (Or.inl ⟨by rfl, ?_⟩) (by assumption) ?_
    rotate_left
    · intro w hSw; (try dsimp only at hSw); go_split_ands; go_simp; (try with_reducible rfl)
    (try simp only [Act.put, List.setIfInBounds_toArray, List.set_cons_zero, List.set_cons_succ])
    refine wpAnyH_take (i := 8) (v := ?_) (by simp only [List.getElem?_toArray, List.getElem?_cons_succ, List.getElem?_cons_zero]; rfl) (by kernel_rfl) (by kernel_rfl) (by kernel_rfl) (fun _ _ _ h => h) (Or.inl ⟨by rfl, ?_⟩) (by assumption) ?_
    rotate_left
    · intro w hSw; (try dsimp only at hSw); go_split_ands; go_simp; (try with_reducible rfl)
    (try simp only [Act.put, List.setIfInBounds_toArray, List.set_cons_zero, List.set_cons_succ])
    refine wpAnyH_take (i := 9) (v := ?_) (by simp only [List.getElem?_toArray, List.getElem?_cons_succ, List.getElem?_cons_zero]; rfl) (by kernel_rfl) (by kernel_rfl) (by kernel_rfl) (fun _ _ _ h => h) (Or.inl ⟨by rfl, ?_⟩) (by assumption) ?_
    rotate_left
    · intro w hSw; (try dsimp only at hSw); go_split_ands; go_simp; (try with_reducible rfl)
    (try simp only [Act.put, List.setIfInBounds_toArray, List.set_cons_zero, List.set_cons_succ])
    refine wpAnyH_take (i := 10) (v := ?_) (by simp only [List.getElem?_toArray, List.getElem?_cons_succ, List.getElem?_cons_zero]; rfl) (by kernel_rfl) (by kernel_rfl) (by kernel_rfl) (fun _ _ _ h => h) (Or.inl ⟨by rfl, ?_⟩) (by assumption) ?_
    rotate_left
    · intro w hSw; (try dsimp only at hSw); go_split_ands; go_simp; (try with_reducible rfl)
    (try simp only [Act.put, List.setIfInBounds_toArray, List.set_cons_zero, List.set_cons_succ])
    refine wpAnyH_take (i := 11) (v := ?_) (by simp only [List.getElem?_toArray, List.getElem?_cons_succ, List.getElem?_cons_zero]; rfl) (by kernel_rfl) (by kernel_rfl) (by kernel_rfl) (fun _ _ _ h => h) (Or.inl ⟨by rfl, ?_⟩) (by assumption) ?_
    rotate_left
    · intro w hSw; (try dsimp only at hSw); go_split_ands; go_simp; (try with_reducible rfl)
    (try simp only [Act.put, List.setIfInBounds_toArray, List.set_cons_zero, List.set_cons_succ])
    refine wpAnyH_take (i := 13) (v := ?_) (by simp only [List.getElem?_toArray, List.getElem?_cons_succ, List.getElem?_cons_zero]; rfl) (by kernel_rfl) (by kernel_rfl) (by kernel_rfl) (fun _ _ _ h => h) (Or.inl ⟨by rfl, ?_⟩) (by assumption) ?_
    rotate_left
    · intro w hSw; (try dsimp only at hSw); go_split_ands; go_simp; (try with_reducible rfl)
    (try simp only [Act.put, List.setIfInBounds_toArray, List.set_cons_zero, List.set_cons_succ])
    refine wpAnyH_ready (rs := [12]) (by kernel_rfl) (by simp) ?_
    refine AllReadyH.cons rfl (fun K hK => ?_) AllReadyH.nil
    go_simp
    refine (wlen_any w.heap.size w.heap.size S2 L _ ?_ (by omega)).mono ?_; (exact HW5.out); rintro e w' ⟨rfl, nd, rfl⟩
    go_wp2_with fail
    refine hK.out _ _ trivial (fun hHeld => ?_)
    clear hK K
    (try simp only [Act.put, List.setIfInBounds_toArray, List.set_cons_zero, List.set_cons_succ])
    refine wpAnyH_take (i := 14) (v := ?_) (by simp only [List.getElem?_toArray, List.getElem?_cons_succ, List.getElem?_cons_zero]; rfl) (by kernel_rfl) (by kernel_rfl) (by kernel_rfl) (fun _ _ _ h => h) (Or.inl ⟨by rfl, ?_⟩) (by assumption) ?_
    rotate_left
    · intro w hSw; (try dsimp only at hSw); go_split_ands; go_simp; (try with_reducible rfl)
    (try simp only [Act.put, List.setIfInBounds_toArray, List.set_cons_zero, List.set_cons_succ])
    refine wpAnyH_take (i := 15) (v := ?_) (by simp only [List.getElem?_toArray, List.getElem?_cons_succ, List.getElem?_cons_zero]; rfl) (by kernel_rfl) (by kernel_rfl) (by kernel_rfl) (fun _ _ _ h => h) (Or.inl ⟨by rfl, ?_⟩) (by assumption) ?_
    rotate_left
    · intro w hSw; (try dsimp only at hSw); go_split_ands; go_simp; (try with_reducible rfl)
    (try simp only [Act.put, List.setIfInBounds_toArray, List.set_cons_zero, List.set_cons_succ])
    refine wpAnyH_take (i := 16) (v := ?_) (by simp only [List.getElem?_toArray, List.getElem?_cons_succ, List.getElem?_cons_zero]; rfl) (by kernel_rfl) (by kernel_rfl) (by kernel_rfl) (fun _ _ _ h => h) (Or.inl ⟨by rfl, ?_⟩) (by assumption) ?_
    rotate_left
    · intro w hSw; (try dsimp only at hSw); go_split_ands; go_simp; (try with_reducible rfl)
    (try simp only [Act.put, List.setIfInBounds_toArray, List.set_cons_zero, List.set_cons_succ])
    refine wpAnyH_take (i := 19) (v := ?_) (by simp only [List.getElem?_toArray, List.getElem?_cons_succ, List.getElem?_cons_zero]; rfl) (by kernel_rfl) (by kernel_rfl) (by kernel_rfl) (fun _ _ _ h => h) (Or.inl ⟨by rfl, ?_⟩) (by assumption) ?_
    rotate_left
    · intro w hSw; (try dsimp only at hSw); go_split_ands; go_simp; (try with_reducible rfl)
    (try simp only [Act.put, List.setIfInBounds_toArray, List.set_cons_zero, List.set_cons_succ])
    refine wpAnyH_ready (rs := [17]) (by kernel_rfl) (by simp) ?_
    refine AllReadyH.cons rfl (fun K hK => ?_) AllReadyH.nil
    go_simp
    refine (wbytes_any w.heap.size w.heap.size S2 L _ ?_ (by omega)).mono ?_; (exact HW5.out); rintro e w8 ⟨A8, c8, rfl, hown, hbel⟩; rw [HPK.out] at hown; rw [HPK.out]; have hb8 : Below w5.heap.size w5 w8 := ⟨hbel.os, hbel.tape, hbel.output, hbel.size, hbel.block⟩; have HO8 := Lib.hid (Cells.of_own hown); have HOW8 := Lib.hid (Cells.of_own (own_keep HO5.out (Mod.of_below hb8) (fun _ _ h => h))); have HBEL8 := Lib.hid (HB5.out.trans (hb8.mono HB5.out.size)); have k8 := str_any w8 A8 P.length c8 _ P HO8.out rfl; rw [HSTR.out] at k8; have HK8 := Lib.hid k8; clear hown hbel hb8 k8
    go_wp2_with fail
    refine hK.out _ _ trivial (fun hHeld => ?_)
    clear hK K
    (try simp only [Act.put, List.setIfInBounds_toArray, List.set_cons_zero, List.set_cons_succ])
    refine wpAnyH_change (S2 := fun V => (convert 24 9 (.slice A8 P.length c8)).run Tryz.prog V = .ok (.string str) V) (fun _ _ => trivial) _ _ _ _ ?_
    have hHeld2 := HK8.out
    refine wpAnyH_take (i := 18) (v := ?_) (by simp only [List.getElem?_toArray, List.getElem?_cons_succ, List.getElem?_cons_zero]; rfl) (by kernel_rfl) (by kernel_rfl) (by kernel_rfl) (fun _ _ _ h => h) (Or.inl ⟨by rfl, ?_⟩) (by assumption) ?_
    rotate_left
    · intro w hSw; (try dsimp only at hSw); go_split_ands; go_simp; (try with_reducible rfl)
    (try simp only [Act.put, List.setIfInBounds_toArray, List.set_cons_zero, List.set_cons_succ])
    refine wpAnyH_ready (rs := [20]) (by kernel_rfl) (by simp) ?_
    refine AllReadyH.cons rfl (fun K hK => ?_) AllReadyH.nil
    go_simp
    refine (refPack_any A5 L.length c5 w8.heap.size L w8 rfl (by omega) (Nat.le_refl _) HOW8.out).mono ?_; rintro e w9 ⟨A9, c9, rfl, hown, hbel⟩; rw [HPK.out] at hown; rw [HPK.out]; have HO9 := Lib.hid (Cells.of_own hown); have HBEL9 := Lib.hid (HBEL8.out.trans (hbel.mono HBEL8.out.size)); have k9 := str_any w9 A9 P.length c9 _ P HO9.out rfl; rw [HSTR.out] at k9; have k10 := str_any w9 A8 P.length c8 _ P (HO8.out.below hbel (Nat.le_refl _)) rfl; rw [HSTR.out] at k10; have HK9 := Lib.hid k9; have HK10 := Lib.hid k10; have HO89 := Lib.hid ((HO8.out.below hbel (Nat.le_refl _)).more hbel.size); clear hown hbel k9 k10
    go_wp2_with fail
    refine hK.out _ _ HK10.out (fun hHeld => ?_)
    clear hK K
    (try simp only [Act.put, List.setIfInBounds_toArray, List.set_cons_zero, List.set_cons_succ])
    refine wpAnyH_change (S2 := fun V => (convert 24 9 (.slice A9 P.length c9)).run Tryz.prog V = .ok (.string str) V ∧ (convert 24 9 (.slice A8 P.length c8)).run Tryz.prog V = .ok (.string str) V) (fun _ h => h.2) _ _ _ _ ?_
    have hHeld2 := And.intro HK9.out HK10.out
    refine wpAnyH_take (i := 21) (v := ?_) (by simp only [List.getElem?_toArray, List.getElem?_cons_succ, List.getElem?_cons_zero]; rfl) (by kernel_rfl) (by kernel_rfl) (by kernel_rfl) (fun _ _ _ h => h) (Or.inl ⟨by rfl, ?_⟩) (by assumption) ?_
    rotate_left
    · intro w hSw; (try dsimp only at hSw); go_split_ands; go_simp; (try with_reducible rfl)
    (try simp only [Act.put, List.setIfInBounds_toArray, List.set_cons_zero, List.set_cons_succ])
    refine wpAnyH_take (i := 22) (v := ?_) (by simp only [List.getElem?_toArray, List.getElem?_cons_succ, List.getElem?_cons_zero]; rfl) (by kernel_rfl) (by kernel_rfl) (by kernel_rfl) (fun _ _ _ h => h) (Or.inl ⟨by rfl, ?_⟩) (by assumption) ?_
    rotate_left
    · intro w hSw; (try dsimp only at hSw); go_split_ands; go_simp; (try with_reducible rfl)
    (try simp only [Act.put, List.setIfInBounds_toArray, List.set_cons_zero, List.set_cons_succ])
    refine wpAnyH_take (i := 23) (v := ?_) (by simp only [List.getElem?_toArray, List.getElem?_cons_succ, List.getElem?_cons_zero]; rfl) (by kernel_rfl) (by kernel_rfl) (by kernel_rfl) (fun _ _ _ h => h) (Or.inl ⟨by rfl, ?_⟩) (by assumption) ?_
    rotate_left
    · intro w hSw; (try dsimp only at hSw); go_split_ands; go_simp; (try with_reducible rfl)
    (try simp only [Act.put, List.setIfInBounds_toArray, List.set_cons_zero, List.set_cons_succ])
    refine wpAnyH_take (i := 24) (v := ?_) (by simp only [List.getElem?_toArray, List.getElem?_cons_succ, List.getElem?_cons_zero]; rfl) (by kernel_rfl) (by kernel_rfl) (by kernel_rfl) (fun _ _ _ h => h) (Or.inl ⟨by rfl, ?_⟩) (by assumption) ?_
    rotate_left
    · intro w hSw; (try dsimp only at hSw); go_split_ands; go_simp; (try with_reducible rfl)
    (try simp only [Act.put, List.setIfInBounds_toArray, List.set_cons_zero, List.set_cons_succ])
    refine wpAnyH_ready (rs := [25]) (by kernel_rfl) (by simp) ?_
    refine AllReadyH.cons rfl (fun K hK => ?_) AllReadyH.nil
    go_simp
    refine (HLV.out _).mono ?_; rintro e w10 ⟨rfl, hb10⟩; have HB10 := Lib.hid hb10; have k9 := str_any w10 A9 P.length c9 _ P (HO9.out.below hb10 (Nat.le_refl _)) rfl; rw [HSTR.out] at k9; have k10 := str_any w10 A8 P.length c8 _ P (HO89.out.below hb10 (Nat.le_refl _)) rfl; rw [HSTR.out] at k10; have HK11 := Lib.hid k9; have HK12 := Lib.hid k10; clear hb10 k9 k10
    go_wp2_with fail
    refine hK.out _ _ (And.intro HK11.out HK12.out) (fun hHeld => ?_)
    clear hK K
    (try simp only [Act.put, List.setIfInBounds_toArray, List.set_cons_zero, List.set_cons_succ])
    refine wpAnyH_take (i := 26) (v := ?_) (by simp only [List.getElem?_toArray, List.getElem?_cons_succ, List.getElem?_cons_zero]; rfl) (by kernel_rfl) (by kernel_rfl) (by kernel_rfl) (fun _ _ _ h => h) (Or.inl ⟨by rfl, ?_⟩) (by assumption) ?_
    rotate_left
    · intro w hSw; (try dsimp only at hSw); go_split_ands; go_simp; (try with_reducible rfl)
    (try simp only [Act.put, List.setIfInBounds_toArray, List.set_cons_zero, List.set_cons_succ])
    refine wpAnyH_take (i := 27) (v := ?_) (by simp only [List.getElem?_toArray, List.getElem?_cons_succ, List.getElem?_cons_zero]; rfl) (by kernel_rfl) (by kernel_rfl) (by kernel_rfl) (fun _ _ _ h => h) (Or.inl ⟨by rfl, ?_⟩) (by assumption) ?_
    rotate_left
    · intro w hSw; (try dsimp only at hSw); go_split_ands; go_simp; (try with_reducible rfl)
    (try simp only [Act.put, List.setIfInBounds_toArray, List.set_cons_zero, List.set_cons_succ])
    refine wpAnyH_done (by kernel_rfl) (NoPanic.normal ?_) _
    go_wp2
    go_ret
    exact ⟨rfl, HBEL9.out.trans (HB10.out.mono HBEL9.out.size)⟩
  · have hb : Below w.heap.size w (w.alloc (.cells zeroWr 27)) := (Below.refl _ w).alloc (Nat.le_refl _) _
    have HB := Lib.hid hb
    have HWR : Hid (WrS (w.alloc (.cells zeroWr 27)) w.heap.size w.heap.size (oneB w.heap.size) []) := WrS.zero _ (heap_alloc_new w _)
    have HP := Lib.hid (blkput_no A l c w.heap.size (w.alloc (.cells zeroWr 27)) (weights_none (by omega) (h.below hb) hl))
    have HBT : Hid (∀ W, Below w.heap.size w W → _) := fun W hW => blkbits_no (c := c) (by omega) (h.below hW) hl
    rw [show decide (ts.length = l) = false from decide_eq_false hl] at HRI
    unfold zeroWr at HP HB HWR
    clear h hl hb
    go_enter Tryz.func3, Tryz.ntmps3
    go_wp2_with (first
      | (go_at_call 7; refine HP.out.mono ?_; clear HP; rintro e w2 ⟨rfl, hb2⟩; have HB2 := Lib.hid (HB.out.trans (hb2.mono HB.out.size)); have HW2 := Lib.hid (HWR.out.keep (Mod.of_below hb2) (fun _ _ h => h)); clear hb2)
      | (go_at_call 8; refine (HBT.out _ HB2.out).mono ?_; rintro e w3 ⟨rfl, hb3⟩; have HB3 := Lib.hid (HB2.out.trans (hb3.mono HB2.out.size)); have HW3 := Lib.hid (HW2.out.keep (Mod.of_below hb3) (fun _ _ h => h)); clear hb3)
      | (go_at_call 7; refine (HNIL.out _).mono ?_; rintro e w' ⟨rfl, rfl⟩)
      | (go_at_call 9; refine (HRI.out _ HB3.out).mono ?_; rintro e w4 ⟨rfl, hb4⟩; have HB4 := Lib.hid (HB3.out.trans (hb4.mono HB3.out.size)); have HW4 := Lib.hid (HW3.out.keep (Mod.of_below hb4) (fun _ _ h => h)); clear hb4)
      | (go_at_call 10; refine (wlen_any w.heap.size w.heap.size (oneB w.heap.size) [] w4 HW4.out (by simp)).mono ?_; rintro e w' ⟨rfl, n5, rfl⟩)
      | (go_at_call 6; refine (HLV.out _).mono ?_; rintro e w7 ⟨rfl, hb7⟩; have HB7 := Lib.hid hb7; clear hb7))
    go_ret
    exact ⟨rfl, (below_drewQ HB4.out n5).trans (HB7.out.mono HB4.out.size)⟩
end Go.Proofs.YtgbbdgoleiolhaaGreat
