/- Layer 13: tokens of bytes in memory; a fresh writer. -/
import Derived.Test.YtgbbdgoleiolhaaGreatMgBlockTakes48
import Derived.Test.YtgbbdgoleiolhaaGreatMgBlockTakes31
import Derived.Test.YtgbbdgoleiolhaaGreatMgBlockTakes47
import Derived.Test.YtgbbdgoleiolhaaGreatMgBlockTakes46
import Derived.Deep.RegionHeld3
namespace Go.Proofs.YtgbbdgoleiolhaaGreat
open Go.RowKit BitsP SymP

theorem tkAt_low {w : World} {A : Option Addr} {k : Nat} {y l d : Int} (h : TkAt w A k y l d) : ∀ a, A = some a → a.block < w.heap.size := fun a ha => by
  obtain ⟨b, o, h1, h2, _⟩ := h
  rw [h1] at ha
  cases ha
  exact h2
theorem toksOf_low {w : World} {A : Option Addr} {l : Nat} {ts : List Tk} (h : ToksOf w A l ts) (hl : ts.length = l) (h0 : 0 < l) : ∀ a, A = some a → a.block < w.heap.size := fun a ha => by
  obtain ⟨t, ht⟩ : ∃ t, ts[0]? = some t := ⟨_, List.getElem?_eq_getElem (by omega)⟩
  exact tkAt_low (h.2.1 0 t ht) a ha
theorem tk_cellsB (ts : List Tk) : (ts.map tkC).flatten = ts.flatMap tcC := by
  rw [List.flatMap_def]
  rfl
theorem toksOf_tk {w : World} {A : Option Addr} {ts : List Tk} (h : ∀ t ∈ ts, okT t) (hc : Cells w w.heap.size A (ts.map tkC).flatten) : ToksOf w A ts.length ts := by
  refine ⟨h, fun k t ht => ?_, .inl rfl⟩
  have c0 := code_at (tkC_len ts) (j := 0) ht rfl
  have c1 := code_at (tkC_len ts) (j := 1) ht rfl
  have c2 := code_at (tkC_len ts) (j := 2) ht rfl
  obtain ⟨b, o, h1, h2, h3⟩ := hc (by have := (List.getElem?_eq_some_iff.1 c0).1; omega)
  exact ⟨b, o, h1, h2, h3 _ _ c0, by have h4 := h3 _ _ c1; rw [← Nat.add_assoc] at h4; exact h4, by have h4 := h3 _ _ c2; rw [← Nat.add_assoc] at h4; exact h4⟩
theorem put_fresh2 {A : Option Addr} {l c : Nat} {ts : List Tk} {w : World} (hm : l ≤ 65536) (h : ToksOf w A l ts) (hl : ts.length = l) :
    Calls Tryz.prog 7 #[.pointer (some ⟨w.heap.size, 0, none⟩), .slice A l c] (w.alloc (.cells zeroWr 27)) fun e w' => e = .returned (.int .i64 0) ∧ ∃ S', WrS w' w.heap.size w.heap.size S' (blkB ts) ∧ Below w.heap.size w w' ∧ ∀ k, S' k → w.heap.size ≤ k := by
  have hb : Below w.heap.size w (w.alloc (.cells zeroWr 27)) := (Below.refl _ w).alloc (Nat.le_refl _) _
  refine (blkput_any A l c w.heap.size w.heap.size ts (oneB w.heap.size) [] (w.alloc (.cells zeroWr 27)) hl hm h.1 (h.below hb).2.1 (fun h0 a ha hk => by
    have h2 := toksOf_low h hl h0 a ha
    have h3 : a.block = w.heap.size := hk
    omega) (WrS.zero _ (heap_alloc_new w _)) (by simp) (by simp)).mono ?_
  rintro e w' ⟨h1, S', h2, h3, h4⟩
  refine ⟨h1, S', by simpa using h2, h3.below hb (by simp) (fun k hk => by cases hk; exact Nat.le_refl _), fun k hk => ?_⟩
  rcases h4 k hk with h5 | h5
  · have h6 : k = w.heap.size := h5
    omega
  · simp at h5; omega
end Go.Proofs.YtgbbdgoleiolhaaGreat
/- Layer 13: the tokens of the block that any bytes begin with: the law. -/
namespace Go.Proofs.YtgbbdgoleiolhaaGreat
open Go.RowKit BitsP SymP
attribute [local go_sem ↓] Go.wp_at_zero Go.wp_at_succ

theorem blkL_len (F : List Int → List Bool → Int × Int × Nat) (z1 z2 : List Int) (L : List Bool) (most : Int) : ∀ (k : Nat) (ts : List Tk) (size p : Nat), (blkL F z1 z2 L most k ts size p).2.1.length ≤ ts.length + k
  | 0, ts, size, p => Nat.zero_le _
  | k + 1, ts, size, p => by
    rw [blkL]
    split
    · exact Nat.zero_le _
    split
    · show ts.length ≤ _; omega
    split
    · exact Nat.zero_le _
    split
    · exact Nat.zero_le _
    · split
      · exact Nat.zero_le _
      split
      · exact Nat.zero_le _
      · refine Nat.le_trans (blkL_len F z1 z2 L most k _ _ _) ?_
        rw [List.length_append, List.length_singleton]
        omega
theorem blkF_len (F : List Int → List Bool → Int × Int × Nat) (L : List Bool) (p : Nat) (most : Int) : (blkF F L p most).2.1.length ≤ L.length + 1 := by
  unfold blkF
  split
  · exact Nat.zero_le _
  split
  · exact Nat.zero_le _
  split
  · exact Nat.zero_le _
  split
  · exact Nat.zero_le _
  · refine Nat.le_trans (blkL_len F _ _ L most _ _ _ _) ?_
    rw [List.length_nil]
    omega
set_option linter.unusedSimpArgs false in
set_option maxRecDepth 100000 in
set_option maxHeartbeats 2000000 in
theorem btakes_law (A : Option Addr) (l c : Nat) (bs : List UInt8) (most : Int) (w : World) (hl : bs.length = l) (hm : l ≤ 9223372036854775807) (m0 : -9223372036854775808 ≤ most) (m1 : most ≤ 9223372036854775807) (hb : Bytes w w.heap.size A bs) :
    Calls Tryz.prog 4 #[.slice A l c, .int .i64 most] w fun e w' => e = .returned (.bool true) ∧ Below w.heap.size w w' := by
  have HLV := Lib.hid lives13_any
  by_cases h3 : 300 < l
  · clear hb
    go_enter Tryz.func4, Tryz.ntmps4
    go_wp2_with (go_at_call 6; refine (HLV.out _).mono ?_; rintro e w4 ⟨rfl, hb4⟩; have HB4 := Lib.hid hb4; clear hb4)
    go_ret
    exact ⟨rfl, HB4.out⟩
  have t0 : decide ((300 : Int) < (l : Int)) = false := decide_eq_false (by omega)
  obtain ⟨F, hF⟩ := funT_ex
  have HNEW := Lib.hid (rnew_any A l c w.heap.size bs w hl (by omega) (Nat.le_refl _) hb)
  have HTK : Hid (∀ (W : World) (base g : Nat) (S : Nat → Prop), RdS W g base S bs 0 → _) := fun W base g S hW => blktake_any F hF g base S bs 0 most W hW (by omega) m0 m1
  have HUN : Hid (∀ W, Below w.heap.size w W → _) := fun W hW => refUnpack_any A l c bs W hl (by omega) ((hb.below hW (Nat.le_refl _)).more hW.size)
  have hun : (unpack bs).length = 8 * l := by rw [unpack_length, hl]
  have HRT : Hid (∀ (W : World) (A6 : Option Addr) (c6 : Nat), 8 * l ≤ c6 → Bytes W W.heap.size A6 (bitBytes (unpack bs)) → Calls Tryz.prog 16 #[.slice A6 (8 * l) c6, .int .i64 0, .int .i64 most] W (RtQ W (8 * l) (blkF F (unpack bs) 0 most))) := fun W A6 c6 hc hbb => rtake13_any F hF A6 (8 * l) c6 (unpack bs) 0 most W hun (by omega) hc hbb (Nat.zero_le _) m0 m1
  have HNIL := Lib.hid (fun W : World => blktake_nil (.int .i64 most) W)
  have hlen := blkF_len F (unpack bs) 0 most
  rw [hun] at hlen
  obtain ⟨⟨er, ts, p9⟩, hT⟩ : ∃ T, blkF F (unpack bs) 0 most = T := ⟨_, rfl⟩
  rw [hT] at HTK HRT hlen
  dsimp only at hlen
  obtain ⟨n, hn⟩ : ∃ n, ts.length = n := ⟨_, rfl⟩
  have HN := Lib.hid hn
  have hn4 : n ≤ 3000 := by omega
  clear hb hl hun hT hlen hn
  go_enter Tryz.func4, Tryz.ntmps4
  go_upto_region 7 with (first
    | (go_at_call 14; refine HNEW.out.mono ?_; rintro e w2 ⟨g, S, rfl, hrd2, hb2, hS2⟩; have HB2 := Lib.hid hb2; have HR2 := Lib.hid hrd2; have HG2 : Hid (w.heap.size ≤ g) := hS2 g (rd_low hrd2).2.2; clear hrd2 hb2 hS2)
    | (go_at_call 15; refine (HTK.out w2 w.heap.size g S HR2.out).mono ?_; clear HTK; rintro e w3 ⟨A3, c3, p3, t3, rfl, rfl, hown3, hrd3, hpe3, hm3⟩; dsimp only at hown3 hpe3; dsimp only; rw [HN.out] at hown3; rw [HN.out]; have HO3 := Lib.hid (show Cells w3 w3.heap.size A3 (ts.map tkC).flatten from (by rw [tk_cellsB]; exact cells_of_own7 hown3)); have HR3 := Lib.hid hrd3; have HPE := Lib.hid hpe3; have HB3 := Lib.hid (hm3.below HB2.out HB2.out.size (fun k hk => by cases hk; exact HG2.out)); clear hown3 hrd3 hpe3 hm3)
    | (go_at_call 17; refine (HUN.out w3 HB3.out).mono ?_; rintro e w4 ⟨A4, c4, rfl, hown4, hb4⟩; have HCP := Lib.hid (own_capT hown4); have HY4 := Lib.hid (Cells.of_own hown4); have HB4 := Lib.hid (HB3.out.trans (hb4.mono HB3.out.size)); have HO4 := Lib.hid ((HO3.out.below hb4 (Nat.le_refl _)).more hb4.size); have HR4 := Lib.hid (HR3.out.keep (Mod.of_below hb4) (fun _ _ h => h)); clear hown4 hb4)
    | (go_at_call 16; refine (HRT.out w4 A4 c4 HCP.out HY4.out).mono ?_; rintro e w5 ⟨A5, c5, sz5, at5, rfl, hok5, hown5, hb5⟩; dsimp only at hok5 hown5; dsimp only; rw [HN.out] at hown5; rw [HN.out]; have HO5 := Lib.hid (show Cells w5 w5.heap.size A5 (ts.map tkC).flatten from (by rw [tk_cellsB]; exact cells_of_own7 hown5)); have HOK := Lib.hid hok5; have HB5 := Lib.hid (HB4.out.trans (hb5.mono HB4.out.size)); have HO45 := Lib.hid ((HO4.out.below hb5 (Nat.le_refl _)).more hb5.size); have HR5 := Lib.hid (HR4.out.keep (Mod.of_below hb5) (fun _ _ h => h)); obtain ⟨W7, hW7⟩ : ∃ W7, w5.alloc (.cells #[.slice A5 n c5, .int .i64 (sz5 : Int), .int .i64 (at5 : Int), .int .i64 er] 43) = W7 := ⟨_, rfl⟩; have hx7 : W7.heap[w5.heap.size]? = some (.cells #[.slice A5 n c5, .int .i64 (sz5 : Int), .int .i64 (at5 : Int), .int .i64 er] 43 (0, 0)) := (by rw [← hW7]; exact heap_alloc_new w5 _); have hb7 : Below w5.heap.size w5 W7 := (by rw [← hW7]; exact (Below.refl _ w5).alloc (Nat.le_refl _) _); have HX7 := Lib.hid hx7; have HB7 := Lib.hid (HB5.out.trans (hb7.mono HB5.out.size)); have HC3 := Lib.hid ((HO45.out.below hb7 (Nat.le_refl _)).more hb7.size); have HC5 := Lib.hid ((HO5.out.below hb7 (Nat.le_refl _)).more hb7.size); have HR7 := Lib.hid (HR5.out.keep (Mod.of_below hb7) (fun _ _ h => h)); have HW7 := Lib.hid hW7; clear hok5 hown5 hb5 hW7 hx7 hb7)
    | (go_at_call 15; refine (HNIL.out _).mono ?_; rintro e w' ⟨rfl, rfl⟩))
  rw [HW7.out]
  have HSK : Hid (∀ V, Below W7.heap.size W7 V → V.cell? ⟨w5.heap.size, 0, none⟩ = some (.slice A5 n c5) ∧ V.cell? ⟨w5.heap.size, 2, none⟩ = some (.int .i64 (at5 : Int)) ∧ V.cell? ⟨w5.heap.size, 3, none⟩ = some (.int .i64 er)) := fun V hV => by
    have h := (hV.block _ (Array.getElem?_eq_some_iff.1 HX7.out).1).trans HX7.out
    exact ⟨cell_of_row _ _ 0 _ _ _ h, cell_of_row _ _ 2 _ _ _ h, cell_of_row _ _ 3 _ _ _ h⟩
  have S7 := HSK.out W7.drew ((Below.refl _ W7).drew)
  clear HW7 HO3 HO4 HO5 HO45 HX7 HB2 HB3 HB4 HB5 HR2 HR3 HR4 HR5
  by_cases her : er = 0
  · subst her
    obtain ⟨_, rfl, _⟩ := HOK.out rfl
    obtain rfl := HPE.out rfl
    go_region_held3 (fun V => V.cell? ⟨w5.heap.size, 0, none⟩ = some (.slice A5 n c5) ∧ V.cell? ⟨w5.heap.size, 2, none⟩ = some (.int .i64 (p3 : Int)) ∧ V.cell? ⟨w5.heap.size, 3, none⟩ = some (.int .i64 0)) (first | exact S7 | exact S8 | exact S9)
      ((first
        | (go_at_call 18; refine (same_any A3 A5 n c3 c5 W7.heap.size W7.heap.size ts _ HN.out (by omega) ?_ ?_).mono ?_; (exact HC3.out); (exact HC5.out); rintro e w8 ⟨rfl, hb8⟩; have hb8' : Below W7.heap.size W7 w8 := ⟨hb8.os, hb8.tape, hb8.output, hb8.size, hb8.block⟩; have HB8 := Lib.hid hb8'; have HR8 := Lib.hid (HR7.out.keep (Mod.of_below hb8') (fun _ _ h => h)); have S8 := HSK.out _ hb8'; clear hb8 hb8')
        | (go_at_call 19; refine (rat_any g w.heap.size S bs p3 _ ?_).mono ?_; (exact HR8.out); rintro e w' ⟨rfl, rfl⟩)
        | (go_at_call 6; refine (HLV.out _).mono ?_; rintro e w9 ⟨rfl, hb9⟩; have hb9' : Below w8.heap.size w8 w9 := ⟨hb9.os, hb9.tape, hb9.output, hb9.size, hb9.block⟩; have HB9 := Lib.hid (HB8.out.trans (hb9'.mono HB8.out.size)); have S9 := HSK.out _ HB9.out; clear hb9 hb9')))
    all_goals
      go_wp2
      go_ret
      exact ⟨rfl, HB7.out.trans (HB9.out.mono HB7.out.size)⟩
  · have v1 : (er != 0) = true := by simpa using her
    clear her
    refine wp_region_noPanic (wp_region_held_drew (S := fun V => V.cell? ⟨w5.heap.size, 0, none⟩ = some (.slice A5 n c5) ∧ V.cell? ⟨w5.heap.size, 2, none⟩ = some (.int .i64 (at5 : Int)) ∧ V.cell? ⟨w5.heap.size, 3, none⟩ = some (.int .i64 er)) (by kernel_rfl) S7 (fun hHeld => ?_))
    (try simp only [Act.put, List.setIfInBounds_toArray, List.set_cons_zero, List.set_cons_succ])
    refine wpAnyH_take (i := 0) (v := ?_) (by simp only [List.getElem?_toArray, List.getElem?_cons_succ, List.getElem?_cons_zero]; rfl) (by kernel_rfl) (by kernel_rfl) (by kernel_rfl) (fun _ _ _ h => h) (Or.inl ⟨by rfl, ?_⟩) (by assumption) ?_
    rotate_left
    · intro w hSw; (try dsimp only at hSw); go_split_ands; go_simp; (try with_reducible rfl)
    (try simp only [Act.put, List.setIfInBounds_toArray, List.set_cons_zero, List.set_cons_succ])
    refine wpAnyH_take (i := 1) (v := ?_) (by simp only [List.getElem?_toArray, List.getElem?_cons_succ, List.getElem?_cons_zero]; rfl) (by kernel_rfl) (by kernel_rfl) (by kernel_rfl) (fun _ _ _ h => h) (Or.inl ⟨by rfl, ?_⟩) (by assumption) ?_
    rotate_left
    · intro w hSw; (try dsimp only at hSw); go_split_ands; go_simp; (try with_reducible rfl)
    (try simp only [Act.put, List.setIfInBounds_toArray, List.set_cons_zero, List.set_cons_succ])
    refine wpAnyH_take (i := 2) (v := ?_) (by simp only [List.getElem?_toArray, List.getElem?_cons_succ, List.getElem?_cons_zero]; rfl) (by kernel_rfl) (by kernel_rfl) (by kernel_rfl) (fun _ _ _ h => h) (Or.inl ⟨by rfl, ?_⟩) (by assumption) ?_
    rotate_left
    · intro w hSw; (try dsimp only at hSw); go_split_ands; go_simp; (try with_reducible rfl)
    (try simp only [Act.put, List.setIfInBounds_toArray, List.set_cons_zero, List.set_cons_succ])
    refine wpAnyH_take (i := 3) (v := ?_) (by simp only [List.getElem?_toArray, List.getElem?_cons_succ, List.getElem?_cons_zero]; rfl) (by kernel_rfl) (by kernel_rfl) (by kernel_rfl) (fun _ _ _ h => h) (Or.inl ⟨by rfl, ?_⟩) (by assumption) ?_
    rotate_left
    · intro w hSw; (try dsimp only at hSw); go_split_ands; go_simp; (try with_reducible rfl)
    (try simp only [Act.put, List.setIfInBounds_toArray, List.set_cons_zero, List.set_cons_succ])
    refine wpAnyH_take (i := 4) (v := ?_) (by simp only [List.getElem?_toArray, List.getElem?_cons_succ, List.getElem?_cons_zero]; rfl) (by kernel_rfl) (by kernel_rfl) (by kernel_rfl) (fun _ _ _ h => h) (Or.inl ⟨by rfl, ?_⟩) (by assumption) ?_
    rotate_left
    · intro w hSw; (try dsimp only at hSw); go_split_ands; go_simp; (try with_reducible rfl)
    (try simp only [Act.put, List.setIfInBounds_toArray, List.set_cons_zero, List.set_cons_succ])
    refine wpAnyH_take (i := 5) (v := ?_) (by simp only [List.getElem?_toArray, List.getElem?_cons_succ, List.getElem?_cons_zero]; rfl) (by kernel_rfl) (by kernel_rfl) (by kernel_rfl) (fun _ _ _ h => h) (Or.inl ⟨by rfl, ?_⟩) (by assumption) ?_
    rotate_left
    · intro w hSw; (try dsimp only at hSw); go_split_ands; go_simp; (try with_reducible rfl)
    (try simp only [Act.put, List.setIfInBounds_toArray, List.set_cons_zero, List.set_cons_succ])
    refine wpAnyH_take (i := 6) (v := ?_) (by simp only [List.getElem?_toArray, List.getElem?_cons_succ, List.getElem?_cons_zero]; rfl) (by kernel_rfl) (by kernel_rfl) (by kernel_rfl) (fun _ _ _ h => h) (Or.inl ⟨by rfl, ?_⟩) (by assumption) ?_
    rotate_left
    · intro w hSw; (try dsimp only at hSw); go_split_ands; go_simp; (try with_reducible rfl)
    (try simp only [Act.put, List.setIfInBounds_toArray, List.set_cons_zero, List.set_cons_succ])
    refine wpAnyH_take (i := 7) (v := ?_) (by simp only [List.getElem?_toArray, List.getElem?_cons_succ, List.getElem?_cons_zero]; rfl) (by kernel_rfl) (by kernel_rfl) (by kernel_rfl) (fun _ _ _ h => h) (Or.inl ⟨by rfl, ?_⟩) (by assumption) ?_
    rotate_left
    · intro w hSw; (try dsimp only at hSw); go_split_ands; go_simp; (try with_reducible rfl)
    (try simp only [Act.put, List.setIfInBounds_toArray, List.set_cons_zero, List.set_cons_succ])
    refine wpAnyH_ready (rs := [8]) (by kernel_rfl) (by simp) ?_
    refine AllReadyH.cons rfl (fun K hK => ?_) AllReadyH.nil
    go_simp
    refine (same_any A3 A5 n c3 c5 W7.heap.size W7.heap.size ts _ HN.out (by omega) ?_ ?_).mono ?_; (exact HC3.out); (exact HC5.out); rintro e w8 ⟨rfl, hb8⟩; have hb8' : Below W7.heap.size W7 w8 := ⟨hb8.os, hb8.tape, hb8.output, hb8.size, hb8.block⟩; have HB8 := Lib.hid hb8'; have S8 := HSK.out _ hb8'; clear hb8 hb8'
    go_wp2_with fail
    refine hK.out _ _ S8 (fun hHeld => ?_)
    clear hK K
    (try simp only [Act.put, List.setIfInBounds_toArray, List.set_cons_zero, List.set_cons_succ])
    refine wpAnyH_take (i := 9) (v := ?_) (by simp only [List.getElem?_toArray, List.getElem?_cons_succ, List.getElem?_cons_zero]; rfl) (by kernel_rfl) (by kernel_rfl) (by kernel_rfl) (fun _ _ _ h => h) (Or.inl ⟨by rfl, ?_⟩) (by assumption) ?_
    rotate_left
    · intro w hSw; (try dsimp only at hSw); go_split_ands; go_simp; (try with_reducible rfl)
    (try simp only [Act.put, List.setIfInBounds_toArray, List.set_cons_zero, List.set_cons_succ])
    refine wpAnyH_take (i := 10) (v := ?_) (by simp only [List.getElem?_toArray, List.getElem?_cons_succ, List.getElem?_cons_zero]; rfl) (by kernel_rfl) (by kernel_rfl) (by kernel_rfl) (fun _ _ _ h => h) (Or.inl ⟨by rfl, ?_⟩) (by assumption) ?_
    rotate_left
    · intro w hSw; (try dsimp only at hSw); go_split_ands; go_simp; (try with_reducible rfl)
    (try simp only [Act.put, List.setIfInBounds_toArray, List.set_cons_zero, List.set_cons_succ])
    refine wpAnyH_take (i := 11) (v := ?_) (by simp only [List.getElem?_toArray, List.getElem?_cons_succ, List.getElem?_cons_zero]; rfl) (by kernel_rfl) (by kernel_rfl) (by kernel_rfl) (fun _ _ _ h => h) (Or.inl ⟨by rfl, ?_⟩) (by assumption) ?_
    rotate_left
    · intro w hSw; (try dsimp only at hSw); go_split_ands; go_simp; (try with_reducible rfl)
    (try simp only [Act.put, List.setIfInBounds_toArray, List.set_cons_zero, List.set_cons_succ])
    refine wpAnyH_take (i := 12) (v := ?_) (by simp only [List.getElem?_toArray, List.getElem?_cons_succ, List.getElem?_cons_zero]; rfl) (by kernel_rfl) (by kernel_rfl) (by kernel_rfl) (fun _ _ _ h => h) (Or.inl ⟨by rfl, ?_⟩) (by assumption) ?_
    rotate_left
    · intro w hSw; (try dsimp only at hSw); go_split_ands; go_simp; (try with_reducible rfl)
    (try simp only [Act.put, List.setIfInBounds_toArray, List.set_cons_zero, List.set_cons_succ])
    refine wpAnyH_take (i := 13) (v := ?_) (by simp only [List.getElem?_toArray, List.getElem?_cons_succ, List.getElem?_cons_zero]; rfl) (by kernel_rfl) (by kernel_rfl) (by kernel_rfl) (fun _ _ _ h => h) (Or.inl ⟨by rfl, ?_⟩) (by assumption) ?_
    rotate_left
    · intro w hSw; (try dsimp only at hSw); go_split_ands; go_simp; (try with_reducible rfl)
    (try simp only [Act.put, List.setIfInBounds_toArray, List.set_cons_zero, List.set_cons_succ])
    refine wpAnyH_take (i := 14) (v := undef) (by simp only [List.getElem?_toArray, List.getElem?_cons_succ, List.getElem?_cons_zero]; rfl) (by kernel_rfl) (by kernel_rfl) (by kernel_rfl) (fun _ _ _ h => h) (Or.inr ⟨by rfl, rfl⟩) (by assumption) ?_
    (try simp only [Act.put, List.setIfInBounds_toArray, List.set_cons_zero, List.set_cons_succ])
    refine wpAnyH_take (i := 15) (v := undef) (by simp only [List.getElem?_toArray, List.getElem?_cons_succ, List.getElem?_cons_zero]; rfl) (by kernel_rfl) (by kernel_rfl) (by kernel_rfl) (fun _ _ _ h => h) (Or.inr ⟨by rfl, rfl⟩) (by assumption) ?_
    (try simp only [Act.put, List.setIfInBounds_toArray, List.set_cons_zero, List.set_cons_succ])
    refine wpAnyH_take (i := 16) (v := undef) (by simp only [List.getElem?_toArray, List.getElem?_cons_succ, List.getElem?_cons_zero]; rfl) (by kernel_rfl) (by kernel_rfl) (by kernel_rfl) (fun _ _ _ h => h) (Or.inr ⟨by rfl, rfl⟩) (by assumption) ?_
    (try simp only [Act.put, List.setIfInBounds_toArray, List.set_cons_zero, List.set_cons_succ])
    refine wpAnyH_take (i := 17) (v := undef) (by simp only [List.getElem?_toArray, List.getElem?_cons_succ, List.getElem?_cons_zero]; rfl) (by kernel_rfl) (by kernel_rfl) (by kernel_rfl) (fun _ _ _ h => h) (Or.inr ⟨by rfl, rfl⟩) (by assumption) ?_
    (try simp only [Act.put, List.setIfInBounds_toArray, List.set_cons_zero, List.set_cons_succ])
    refine wpAnyH_take (i := 18) (v := undef) (by simp only [List.getElem?_toArray, List.getElem?_cons_succ, List.getElem?_cons_zero]; rfl) (by kernel_rfl) (by kernel_rfl) (by kernel_rfl) (fun _ _ _ h => h) (Or.inr ⟨by rfl, rfl⟩) (by assumption) ?_
    (try simp only [Act.put, List.setIfInBounds_toArray, List.set_cons_zero, List.set_cons_succ])
    refine wpAnyH_take (i := 19) (v := ?_) (by simp only [List.getElem?_toArray, List.getElem?_cons_succ, List.getElem?_cons_zero]; rfl) (by kernel_rfl) (by kernel_rfl) (by kernel_rfl) (fun _ _ _ h => h) (Or.inl ⟨by rfl, ?_⟩) (by assumption) ?_
    rotate_left
    · intro w hSw; (try dsimp only at hSw); go_split_ands; go_simp; (try with_reducible rfl)
    (try simp only [Act.put, List.setIfInBounds_toArray, List.set_cons_zero, List.set_cons_succ])
    refine wpAnyH_take (i := 20) (v := ?_) (by simp only [List.getElem?_toArray, List.getElem?_cons_succ, List.getElem?_cons_zero]; rfl) (by kernel_rfl) (by kernel_rfl) (by kernel_rfl) (fun _ _ _ h => h) (Or.inl ⟨by rfl, ?_⟩) (by assumption) ?_
    rotate_left
    · intro w hSw; (try dsimp only at hSw); go_split_ands; go_simp; (try with_reducible rfl)
    (try simp only [Act.put, List.setIfInBounds_toArray, List.set_cons_zero, List.set_cons_succ])
    refine wpAnyH_take (i := 21) (v := ?_) (by simp only [List.getElem?_toArray, List.getElem?_cons_succ, List.getElem?_cons_zero]; rfl) (by kernel_rfl) (by kernel_rfl) (by kernel_rfl) (fun _ _ _ h => h) (Or.inl ⟨by rfl, ?_⟩) (by assumption) ?_
    rotate_left
    · intro w hSw; (try dsimp only at hSw); go_split_ands; go_simp; (try with_reducible rfl)
    (try simp only [Act.put, List.setIfInBounds_toArray, List.set_cons_zero, List.set_cons_succ])
    refine wpAnyH_take (i := 22) (v := ?_) (by simp only [List.getElem?_toArray, List.getElem?_cons_succ, List.getElem?_cons_zero]; rfl) (by kernel_rfl) (by kernel_rfl) (by kernel_rfl) (fun _ _ _ h => h) (Or.inl ⟨by rfl, ?_⟩) (by assumption) ?_
    rotate_left
    · intro w hSw; (try dsimp only at hSw); go_split_ands; go_simp; (try with_reducible rfl)
    (try simp only [Act.put, List.setIfInBounds_toArray, List.set_cons_zero, List.set_cons_succ])
    refine wpAnyH_take (i := 23) (v := ?_) (by simp only [List.getElem?_toArray, List.getElem?_cons_succ, List.getElem?_cons_zero]; rfl) (by kernel_rfl) (by kernel_rfl) (by kernel_rfl) (fun _ _ _ h => h) (Or.inl ⟨by rfl, ?_⟩) (by assumption) ?_
    rotate_left
    · intro w hSw; (try dsimp only at hSw); go_split_ands; go_simp; (try with_reducible rfl)
    (try simp only [Act.put, List.setIfInBounds_toArray, List.set_cons_zero, List.set_cons_succ])
    refine wpAnyH_take (i := 24) (v := ?_) (by simp only [List.getElem?_toArray, List.getElem?_cons_succ, List.getElem?_cons_zero]; rfl) (by kernel_rfl) (by kernel_rfl) (by kernel_rfl) (fun _ _ _ h => h) (Or.inl ⟨by rfl, ?_⟩) (by assumption) ?_
    rotate_left
    · intro w hSw; (try dsimp only at hSw); go_split_ands; go_simp; (try with_reducible rfl)
    (try simp only [Act.put, List.setIfInBounds_toArray, List.set_cons_zero, List.set_cons_succ])
    refine wpAnyH_take (i := 25) (v := ?_) (by simp only [List.getElem?_toArray, List.getElem?_cons_succ, List.getElem?_cons_zero]; rfl) (by kernel_rfl) (by kernel_rfl) (by kernel_rfl) (fun _ _ _ h => h) (Or.inl ⟨by rfl, ?_⟩) (by assumption) ?_
    rotate_left
    · intro w hSw; (try dsimp only at hSw); go_split_ands; go_simp; (try with_reducible rfl)
    (try simp only [Act.put, List.setIfInBounds_toArray, List.set_cons_zero, List.set_cons_succ])
    refine wpAnyH_ready (rs := [26]) (by kernel_rfl) (by simp) ?_
    refine AllReadyH.cons rfl (fun K hK => ?_) AllReadyH.nil
    go_simp
    refine (HLV.out _).mono ?_; rintro e w9 ⟨rfl, hb9⟩; have hb9' : Below w8.heap.size w8 w9 := ⟨hb9.os, hb9.tape, hb9.output, hb9.size, hb9.block⟩; have HB9 := Lib.hid (HB8.out.trans (hb9'.mono HB8.out.size)); have S9 := HSK.out _ HB9.out; clear hb9 hb9'
    go_wp2_with fail
    refine hK.out _ _ S9 (fun hHeld => ?_)
    clear hK K
    (try simp only [Act.put, List.setIfInBounds_toArray, List.set_cons_zero, List.set_cons_succ])
    refine wpAnyH_take (i := 27) (v := ?_) (by simp only [List.getElem?_toArray, List.getElem?_cons_succ, List.getElem?_cons_zero]; rfl) (by kernel_rfl) (by kernel_rfl) (by kernel_rfl) (fun _ _ _ h => h) (Or.inl ⟨by rfl, ?_⟩) (by assumption) ?_
    rotate_left
    · intro w hSw; (try dsimp only at hSw); go_split_ands; go_simp; (try with_reducible rfl)
    (try simp only [Act.put, List.setIfInBounds_toArray, List.set_cons_zero, List.set_cons_succ])
    refine wpAnyH_take (i := 28) (v := ?_) (by simp only [List.getElem?_toArray, List.getElem?_cons_succ, List.getElem?_cons_zero]; rfl) (by kernel_rfl) (by kernel_rfl) (by kernel_rfl) (fun _ _ _ h => h) (Or.inl ⟨by rfl, ?_⟩) (by assumption) ?_
    rotate_left
    · intro w hSw; (try dsimp only at hSw); go_split_ands; go_simp; (try with_reducible rfl)
    (try simp only [Act.put, List.setIfInBounds_toArray, List.set_cons_zero, List.set_cons_succ])
    refine wpAnyH_done (by kernel_rfl) (NoPanic.normal ?_) _
    go_wp2
    go_ret
    exact ⟨rfl, HB7.out.trans (HB9.out.mono HB7.out.size)⟩
end Go.Proofs.YtgbbdgoleiolhaaGreat
