/- Layer 13, plainly: the tokens of bytes may be taken; with a byte less they may not; how many bits a block has. -/
import Derived.Test.YtgbbdgoleiolhaaMgBlockWeightsSBkBkP
import Derived.Test.YtgbbdgoleiolhaaMgBlockWeights46
import Derived.Test.YtgbbdgoleiolhaaMgBlockWeights47
import Derived.Test.YtgbbdgoleiolhaaMgBlockWeights24
import Derived.Test.YtgbbdgoleiolhaaMgBlockWeights15
import Derived.Test.YtgbbdgoleiolhaaMgBlockWeights42
namespace Go.Proofs.Ytgbbdgoleiolhaa
open BitsP SymP

theorem tokAt_kind (bs : List UInt8) (lv : Int) (p : Nat) : tokAt bs lv p = (bs.getD p 0, 0, 0) ∨
    ∃ n d : Nat, tokAt bs lv p = (0, n, d) ∧ 3 ≤ n ∧ n ≤ 258 ∧ 1 ≤ d ∧ d ≤ 32768 ∧ d ≤ p ∧ p + n ≤ bs.length := by
  unfold tokAt
  split
  · exact .inl rfl
  · rename_i h
    refine .inr ⟨_, _, rfl, ?_⟩
    rcases bestM_of bs (p : Int) (depthN lv) with h0 | ⟨hd, hn⟩
    · exact absurd (.inl (by rw [h0])) h
    · have h3 := lenI_three hd
      have hb := bestM_le bs (p : Int) (depthN lv)
      obtain ⟨_, hc1, hc2, hc3, hc4, _⟩ := cand_of hd
      rw [hn] at hb ⊢
      have hr := lenI_at bs (a := p) (d := (bestM bs (p : Int) (depthN lv)).2) (by omega) hc2 hc3 (by omega)
      rw [hr] at h3 hb ⊢
      have hle := runM_le bs p (bestM bs (p : Int) (depthN lv)).2 (capM bs p) 0
      have hcap : capM bs p ≤ bs.length - p := by unfold capM; omega
      exact ⟨h3, hb, hc2, hc3, by omega, by omega⟩
theorem tokAt_okT (bs : List UInt8) (lv : Int) (p : Nat) : okT (tokAt bs lv p) := by
  rcases tokAt_kind bs lv p with h | ⟨n, d, h, h1, h2, h3, h4, _⟩
  · rw [h]; exact .inl ⟨rfl, rfl⟩
  · rw [h]; exact .inr ⟨h1, h2, h3, h4, rfl⟩
theorem tokAt_fit {bs : List UInt8} {lv : Int} {p : Nat} (hp : p < bs.length) : p + max (tokAt bs lv p).2.1 1 ≤ bs.length ∧ (tokAt bs lv p).2.2 ≤ p := by
  rcases tokAt_kind bs lv p with h | ⟨n, d, h, h1, h2, h3, h4, h5, h6⟩
  · rw [h]; exact ⟨by simp; omega, Nat.zero_le _⟩
  · rw [h]; exact ⟨by show p + max n 1 ≤ _; omega, h5⟩
theorem toks_okT (bs : List UInt8) (lv : Int) : ∀ (k p : Nat), bs.length - p ≤ k → ∀ t ∈ toks bs lv p, okT t
  | 0, p, h => by rw [toks_end (by omega)]; intro t ht; cases ht
  | k + 1, p, h => by
    by_cases hp : p < bs.length
    · have h1 := tsz_pos (tokAt bs lv p)
      rw [toks_step hp]
      intro t ht
      rcases List.mem_cons.1 ht with rfl | ht
      · exact tokAt_okT _ _ _
      · exact toks_okT bs lv k _ (by omega) t ht
    · rw [toks_end (by omega)]; intro t ht; cases ht
theorem toks_good (bs : List UInt8) (lv : Int) : ∀ (k p : Nat), bs.length - p ≤ k → goodT (bs.length : Int) (toks bs lv p) p
  | 0, p, h => by rw [toks_end (by omega)]; trivial
  | k + 1, p, h => by
    by_cases hp : p < bs.length
    · have h1 := tsz_pos (tokAt bs lv p)
      obtain ⟨h2, h3⟩ := tokAt_fit (lv := lv) hp
      rw [toks_step hp]
      exact ⟨tokAt_okT _ _ _, h3, by omega, toks_good bs lv k _ (by omega)⟩
    · rw [toks_end (by omega)]; trivial
/-- Tokens that are too much somewhere. -/
def tooT (most : Int) : List Tk → Nat → Prop
  | [], _ => False
  | t :: ts, size => t.2.2 ≤ size ∧ (most < ((size + max t.2.1 1 : Nat) : Int) ∨ (((size + max t.2.1 1 : Nat) : Int) ≤ most ∧ tooT most ts (size + max t.2.1 1)))
theorem toks_too (bs : List UInt8) (lv : Int) : ∀ (k p : Nat), bs.length - p ≤ k → p < bs.length → tooT ((bs.length : Int) - 1) (toks bs lv p) p
  | 0, p, h, hp => by omega
  | k + 1, p, h, hp => by
    have h1 := tsz_pos (tokAt bs lv p)
    obtain ⟨h2, h3⟩ := tokAt_fit (lv := lv) hp
    rw [toks_step hp]
    refine ⟨h3, ?_⟩
    by_cases hl : p + max (tokAt bs lv p).2.1 1 = bs.length
    · exact .inl (by omega)
    · exact .inr ⟨by omega, toks_too bs lv k _ (by show bs.length - (p + max (tokAt bs lv p).2.1 1) ≤ k; omega) (by show p + max (tokAt bs lv p).2.1 1 < bs.length; omega)⟩
theorem blkL_too {F : List Int → List Bool → Int × Int × Nat} (hF : FunT F) {al : List Tk} {most : Int} {L R : List Bool} : ∀ (k : Nat) (pre ts : List Tk) (size p : Nat), al = pre ++ ts → ts.length < k → (∀ t ∈ ts, okT t) → tooT most ts size →
    L.drop p = toksB (zN (lensW (wt1 al))) (zN (lensW (wt2 al))) ts ++ (symB (zN (lensW (wt1 al))) 256 ++ R) →
    blkL F (zN (lensW (wt1 al))) (zN (lensW (wt2 al))) L most k pre size p = (5, [], 0)
  | 0, pre, ts, size, p, _, hk, _, _, _ => by omega
  | k + 1, pre, [], size, p, ha, _, _, hg, hd => hg.elim
  | k + 1, pre, t :: ts, size, p, ha, hk, hok, hg, hd => by
    have h1 := hok t List.mem_cons_self
    have hin : t ∈ al := by rw [ha]; simp
    obtain ⟨hdist, hg2⟩ := hg
    obtain ⟨hj, hiff, hne⟩ := joinR_back h1
    obtain ⟨x, hx, h0⟩ := wt1_has hin h1
    rw [tokB_parts, List.append_assoc] at hd
    have hc := clsF_back hF (by rw [wt1_len]; omega) (c := cls1 t) (zr := 257) hx h0 (wd1 h1) (cls1_lt h1).2.2 hd
    have hd2 := drop_more hd
    have hy : UInt8.ofNat t.1.toNat = t.1 := by simp
    have ih := fun p' hg' hd' => blkL_too hF (al := al) (most := most) (L := L) (R := R) k (pre ++ [t]) ts (size + max t.2.1 1) p' (by rw [ha]; simp) (by simp at hk; omega) (fun x hx => hok x (List.mem_cons_of_mem _ hx)) hg' hd'
    by_cases hm : isM t = true
    · have h256 := hiff.2 hm
      obtain ⟨x2, hx2, h02⟩ := wt2_has hin h1 hm
      rw [if_pos hm, List.append_assoc] at hd2
      have hc2 := clsF_back hF (by rw [wt2_len]; omega) (c := cls2 t) (zr := 0) hx2 h02 (wd2 h1 hm) (cls2_lt h1).2.2 hd2
      have hd3 := drop_more hd2
      rw [if_pos h256] at hj
      rw [blkL, hc]
      dsimp only
      rw [if_neg (by simp), if_neg hne, hc2]
      dsimp only
      rw [if_neg (by simp), if_pos h256, if_pos h256, hj]
      dsimp only
      rw [if_neg (by omega)]
      rcases hg2 with hg2 | ⟨hg2, hg3⟩
      · rw [if_pos (by omega)]
      · rw [if_neg (by omega), hy, ih _ hg3 hd3]
    · have h256 : ¬ 256 < (cls1 t).1 := fun h => hm (hiff.1 h)
      rw [if_neg hm, List.nil_append] at hd2
      rw [if_neg h256] at hj
      rw [blkL, hc]
      dsimp only
      rw [if_neg (by simp), if_neg hne, if_neg (fun h => h256 h.1), if_neg h256, if_neg h256, hj, Nat.add_zero]
      dsimp only
      rw [if_neg (by omega)]
      rcases hg2 with hg2 | ⟨hg2, hg3⟩
      · rw [if_pos (by omega)]
      · rw [if_neg (by omega), hy, ih _ hg3 hd2]
theorem blkF_too {F : List Int → List Bool → Int × Int × Nat} (hF : FunT F) {ts : List Tk} (hok : ∀ t ∈ ts, okT t) {most : Int} (hg : tooT most ts 0) {L R : List Bool} {p : Nat} (hd : L.drop p = blkB ts ++ R) : blkF F L p most = (5, [], 0) := by
  have hl1 : (lensW (wt1 ts)).length = 273 := by rw [lensW_len, wt1_len]
  have hl2 : (lensW (wt2 ts)).length = 30 := by rw [lensW_len, wt2_len]
  have hr1 : caR (zN (lensW (wt1 ts))) = true := by
    obtain ⟨x, hx, h0⟩ := wt1_end ts
    exact lensW_caR (by rw [wt1_len]; omega) hx h0
  have hr2 : caR (zN (lensW (wt2 ts))) = true := by
    obtain ⟨s, x, hx, h0⟩ := wt2_some ts hok
    exact lensW_caR (by rw [wt2_len]; omega) hx h0
  have hB : blkB ts = tabP (lensW (wt1 ts)) ++ (tabP (lensW (wt2 ts)) ++ (toksB (zN (lensW (wt1 ts))) (zN (lensW (wt2 ts))) ts ++ symB (zN (lensW (wt1 ts))) 256)) := by unfold blkB; simp only [List.append_assoc]
  rw [hB] at hd
  simp only [List.append_assoc] at hd
  have ht1 := tkF_back hF (by rw [hl1]; omega) (by rw [hl1]; omega) (lensW_le (by rw [wt1_len]; omega)) hd
  have hd2 := drop_more hd
  have ht2 := tkF_back hF (by rw [hl2]; omega) (by rw [hl2]; omega) (lensW_le (by rw [wt2_len]; omega)) hd2
  have hd3 := drop_more hd2
  have hge := toksB_ge (al := ts) ts (fun t ht => ⟨ht, hok t ht⟩)
  have hlen := congrArg List.length hd3
  rw [List.length_drop, List.length_append, List.length_append] at hlen
  have hs1 : 1 ≤ (symB (zN (lensW (wt1 ts))) 256).length := by
    obtain ⟨x, hx, h0⟩ := wt1_end ts
    obtain ⟨n, v, k, hy, _, hs, _, _⟩ := lensW_sym (by rw [wt1_len]; omega) hx h0
    have h2 : symB (zN (lensW (wt1 ts))) 256 = codeB v n := hs
    rw [h2, codeB_len]
    exact hy.one
  have hbl := blkL_too hF (al := ts) (most := most) (L := L) (R := R) (L.length + 1 - (p + (tabP (lensW (wt1 ts))).length + (tabP (lensW (wt2 ts))).length)) [] ts 0 (p + (tabP (lensW (wt1 ts))).length + (tabP (lensW (wt2 ts))).length) rfl (by omega) hok hg hd3
  have hz1 : ((lensW (wt1 ts)).map fun n : Nat => (n : Int)) = zN (lensW (wt1 ts)) := rfl
  have hz2 : ((lensW (wt2 ts)).map fun n : Nat => (n : Int)) = zN (lensW (wt2 ts)) := rfl
  unfold blkF
  rw [ht1]
  dsimp only
  rw [if_neg (by simp), ht2]
  dsimp only
  rw [if_neg (by simp), hl1, hl2, if_neg (by omega), hz1, hz2, if_neg (by rw [hr1, hr2]; simp), hbl]
theorem tab_few {ws : List Nat} (hws : ws.length ≤ 320) (hex : ∃ s x : Nat, ws[s]? = some x ∧ 0 < x) : (tabP (lensW ws)).length ≤ 100000 := by
  obtain ⟨s, x, hx, h0⟩ := hex
  have hv := lensW_le hws
  obtain ⟨t, ht⟩ := partsP_ne (ls := lensW ws) (by rw [lensW_len]; have := (List.getElem?_eq_some_iff.1 hx).1; omega)
  have h2 := partsB_len (lnP_right ht (partsP_all hv t ht)) (partsP (lensW ws) 0)
  have h3 := parts_few (lensW ws)
  rw [lensW_len] at h3
  rw [tabP, List.length_append, List.length_append, bitsOf_length, lensB_len, lnP_len]
  omega
theorem blkB_few {ts : List Tk} (hok : ∀ t ∈ ts, okT t) : (blkB ts).length ≤ 200015 + 56 * ts.length := by
  have h1 := tab_few (ws := wt1 ts) (by rw [wt1_len]; omega) (by obtain ⟨x, h1, h2⟩ := wt1_end ts; exact ⟨256, x, h1, h2⟩)
  have h2 := tab_few (ws := wt2 ts) (by rw [wt2_len]; omega) (wt2_some ts hok)
  have hr1 : caR (zN (lensW (wt1 ts))) = true := by
    obtain ⟨x, hx, h0⟩ := wt1_end ts
    exact lensW_caR (by rw [wt1_len]; omega) hx h0
  have hr2 : caR (zN (lensW (wt2 ts))) = true := by
    obtain ⟨s, x, hx, h0⟩ := wt2_some ts hok
    exact lensW_caR (by rw [wt2_len]; omega) hx h0
  have h3 := toksB_len hr1 hr2 hok
  have h4 := symB_len hr1 256
  rw [blkB, List.length_append, List.length_append, List.length_append]
  omega
end Go.Proofs.Ytgbbdgoleiolhaa
/- Layer 13: a block of a token goes there and back. -/
namespace Go.Proofs.Ytgbbdgoleiolhaa
open Go.RowKit BitsP SymP
attribute [local go_sem ↓] Go.wp_at_zero Go.wp_at_succ

/-- The chapter's token. -/
def tk7 : Tk := (7, 0, 0)
theorem ok7 : ∀ t ∈ [tk7], okT t := fun t ht => by
  obtain rfl : t = tk7 := by simpa using ht
  exact .inl ⟨rfl, rfl⟩
set_option maxRecDepth 100000 in
set_option maxHeartbeats 2000000 in
theorem lives13_any (w : World) : Calls Try.prog 4 #[] w fun e w' => e = .returned (.bool true) ∧ Below w.heap.size w w' := by
  obtain ⟨F, hF⟩ := funT_ex
  obtain ⟨W2, hW2⟩ : ∃ W2, (w.alloc (.cells zeroWr 34)).alloc (.cells #[.int .u8 7, .int .i64 0, .int .i64 0] 39) = W2 := ⟨_, rfl⟩
  have HB2 : Hid (Below w.heap.size w W2) := by show Below _ _ _; rw [← hW2]; exact ((Below.refl _ w).alloc (Nat.le_refl _) _).alloc (by simp) _
  have HWR : Hid (WrS W2 w.heap.size w.heap.size (oneB w.heap.size) []) := by
    show WrS _ _ _ _ _
    rw [← hW2]
    exact (WrS.zero _ (heap_alloc_new w _)).keep (Mod.of_below ((Below.refl _ _).alloc (Nat.le_refl _) _)) (fun _ _ h => h)
  have hx := heap_alloc_new (w.alloc (.cells zeroWr 34)) (.cells #[.int .u8 7, .int .i64 0, .int .i64 0] 39)
  rw [hW2, World.size_alloc] at hx
  have hsz : W2.heap.size = w.heap.size + 2 := by rw [← hW2]; simp
  have HTA : Hid (∀ k t, [tk7][k]? = some t → TkAt W2 (some ⟨w.heap.size + 1, 0, none⟩) k (t.1.toNat : Int) (t.2.1 : Int) (t.2.2 : Int)) := fun k t ht => by
    cases k with
    | zero =>
      obtain rfl : tk7 = t := by simpa using ht
      exact ⟨_, 0, rfl, by omega, cell_of_row _ _ 0 _ _ _ hx, cell_of_row _ _ 1 _ _ _ hx, cell_of_row _ _ 2 _ _ _ hx⟩
    | succ k => simp at ht
  have HP := Lib.hid (blkput_any (some ⟨w.heap.size + 1, 0, none⟩) 1 1 w.heap.size w.heap.size [tk7] (oneB w.heap.size) [] W2 rfl (by omega) ok7 HTA.out (fun _ a ha hk => by
    cases ha
    have h2 : w.heap.size + 1 = w.heap.size := hk
    omega) HWR.out (by simp) (by omega))
  rw [List.nil_append] at HP
  obtain ⟨bs, hbs⟩ : ∃ bs, pack (blkB [tk7]) = bs := ⟨_, rfl⟩
  have hun : unpack bs = blkB [tk7] ++ zeros (lack (blkB [tk7]).length) := by rw [← hbs, pack_unpack]
  have hbk : blkF F (unpack bs) 0 1 = (0, [tk7], 0 + (blkB [tk7]).length) := blkF_back hF ok7 (by exact ⟨.inl ⟨rfl, rfl⟩, Nat.le_refl _, by decide, trivial⟩) (by rw [List.drop_zero]; exact hun)
  have hlen : (blkB [tk7]).length ≤ 300000 := by have h := blkB_few ok7; simp at h; omega
  have hbl : bs.length ≤ 300000 := by rw [← hbs]; exact Nat.le_trans (pack_length _) hlen
  have HTK : Hid (∀ (W : World) (base g : Nat) (S : Nat → Prop), RdS W g base S bs 0 → _) := fun W base g S hW => blktake_any F hF g base S bs 0 1 W hW (by omega) (by omega) (by omega)
  rw [hbk] at HTK
  have HPK : Hid (pack (blkB [tk7]) = bs) := hbs
  have HLN := Lib.hid hlen
  have HW2 := Lib.hid hW2
  unfold zeroWr at HW2
  clear hx hbs hun hbk hlen hW2
  go_enter Try.func4, Try.ntmps4
  go_upto_region 2 with fail
  go_wp2_with fail
  rw [HW2.out]
  go_wp2_with (first
    | (go_at_call 9; refine HP.out.mono ?_; rintro e w3 ⟨rfl, S3, hw3, hm3, hs3⟩; have HW3 := Lib.hid hw3; have HB3 := Lib.hid (hm3.below HB2.out HB2.out.size (fun k hk => by cases hk; exact Nat.le_refl _)); clear hw3 hm3 hs3)
    | (go_at_call 12; refine (wbytes_any w.heap.size w.heap.size S3 (blkB [tk7]) w3 HW3.out (by have := HLN.out; omega)).mono ?_; rintro e w5 ⟨A5, c5, rfl, hown, hbel⟩; rw [HPK.out] at hown; rw [HPK.out]; have HO5 := Lib.hid (Cells.of_own hown); have HB5 := Lib.hid (HB3.out.trans (hbel.mono HB3.out.size)); clear hown hbel)
    | (go_at_call 11; refine (rnew_any A5 bs.length c5 w5.heap.size bs w5 rfl (by omega) (Nat.le_refl _) HO5.out).mono ?_; rintro e w6 ⟨g6, S6, rfl, hrd6, hb6, hS6⟩; have HR6 := Lib.hid hrd6; have HB6 := Lib.hid (HB5.out.trans (hb6.mono HB5.out.size)); have HG6 : Hid (w5.heap.size ≤ g6) := hS6 g6 (rd_low hrd6).2.2; clear hrd6 hb6 hS6)
    | (go_at_call 10; refine (HTK.out w6 w5.heap.size g6 S6 HR6.out).mono ?_; rintro e w7 ⟨A7, c7, p7, t7, rfl, rfl, hown, hrd7, hpe, hm7⟩; obtain ⟨b7, o7, rfl, hb7, hc7⟩ := (cells_of_ownP hown) (by show 0 < 3; decide); have q7 : w7.cell? ⟨b7, o7, none⟩ = some (.int .u8 7) := hc7 0 _ rfl; have HB7 := Lib.hid (hm7.below HB6.out HB6.out.size (fun k hk => by cases hk; have := HG6.out; have := HB5.out.size; omega)); clear hown hrd7 hm7 hpe hb7 hc7))
  go_ret
  exact ⟨rfl, HB7.out⟩
end Go.Proofs.Ytgbbdgoleiolhaa
/- Layer 13: how often symbols are there: the law. -/
namespace Go.Proofs.Ytgbbdgoleiolhaa
open Go.RowKit BitsP SymP
attribute [local go_sem ↓] Go.wp_at_zero Go.wp_at_succ

theorem ints_nb {W : World} {g1 g2 n : Nat} {xs : List Nat} (h1 : NB W g1 xs) (h2 : NB W g2 xs) (hn : xs.length = n) (hm : n ≤ 1000) :
    Calls Try.prog 8 #[.slice (some ⟨g1, 0, none⟩) n n, .slice (some ⟨g2, 0, none⟩) n n] W fun e w' => e = .returned (.bool true) ∧ ∃ m, w' = W.drewN m :=
  ref7Ints_any _ _ n n n (zN xs) (zN xs) W.heap.size W (by rw [zN_len]; exact hn) (by rw [zN_len]; exact hn) (by omega) (by have h := h1.cellsN; rw [zN_cs] at h; exact h) (by have h := h2.cellsN; rw [zN_cs] at h; exact h) rfl
set_option maxRecDepth 100000 in
set_option maxHeartbeats 1000000 in
theorem bweights_law (A : Option Addr) (l c : Nat) (ts : List Tk) (w : World) (hm : l ≤ 9223372036854775807) (h : ToksOf w A l ts) :
    Calls Try.prog 3 #[.slice A l c] w fun e w' => e = .returned (.bool true) ∧ Below w.heap.size w w' := by
  have HLV := Lib.hid lives13_any
  by_cases h3 : 300 < l
  · clear h
    go_enter Try.func3, Try.ntmps3
    go_wp2_with (go_at_call 4; refine (HLV.out _).mono ?_; rintro e w4 ⟨rfl, hb4⟩; have HB4 := Lib.hid hb4; clear hb4)
    go_ret
    exact ⟨rfl, HB4.out⟩
  have t0 : decide ((300 : Int) < (l : Int)) = false := decide_eq_false (by omega)
  have HRI : Hid (∀ W, Below w.heap.size w W → _) := fun W hW => rright13_any A l c ts W (by omega) (h.below hW).1 (h.below hW).2.1 (h.below hW).2.2
  by_cases hl : ts.length = l
  · have HWT := Lib.hid (weights_yes (c := c) (by omega) h hl)
    have HRW : Hid (∀ W, Below w.heap.size w W → _) := fun W hW => rweights_any A l c ts W hl (by omega) (h.below hW).1 (h.below hW).2.1
    rw [show decide (ts.length = l) = true from decide_eq_true hl] at HRI
    clear h hl
    go_enter Try.func3, Try.ntmps3
    go_wp2_with (first
      | (go_at_call 5; refine HWT.out.mono ?_; rintro e w2 ⟨hb2, g1, g2, rfl, hn1, hn2⟩; have HB2 := Lib.hid hb2; have HN1 := Lib.hid hn1; have HN2 := Lib.hid hn2; clear hb2 hn1 hn2)
      | (go_at_call 6; refine (HRI.out _ HB2.out).mono ?_; rintro e w3 ⟨rfl, hb3⟩; have HB3 := Lib.hid (HB2.out.trans (hb3.mono HB2.out.size)); have HN13 := Lib.hid (HN1.out.below hb3 HN1.out.lt); have HN23 := Lib.hid (HN2.out.below hb3 HN2.out.lt); clear hb3)
      | (go_at_call 7; refine (HRW.out _ HB3.out).mono ?_; rintro e w4 ⟨hb4, g3, g4, rfl, hn3, hn4, _, _⟩; have HB4 := Lib.hid (HB3.out.trans (hb4.mono HB3.out.size)); have HN14 := Lib.hid (HN13.out.below hb4 HN13.out.lt); have HN24 := Lib.hid (HN23.out.below hb4 HN23.out.lt); have HN3 := Lib.hid hn3; have HN4 := Lib.hid hn4; clear hb4 hn3 hn4)
      | (go_at_call 8; refine (ints_nb HN14.out HN3.out (wt1_len ts) (by omega)).mono ?_; rintro e w' ⟨rfl, m5, rfl⟩; clear HN14)
      | (go_at_call 8; refine (ints_nb (W := w4.drewN m5) HN24.out HN4.out (wt2_len ts) (by omega)).mono ?_; rintro e w' ⟨rfl, m6, rfl⟩; clear HN24)
      | (go_at_call 4; refine (HLV.out _).mono ?_; rintro e w7 ⟨rfl, hb7⟩; have HB7 := Lib.hid hb7; clear hb7))
    go_ret
    exact ⟨rfl, HB4.out.trans ((show Below w4.heap.size w4 w7 from ⟨HB7.out.os, HB7.out.tape, HB7.out.output, HB7.out.size, HB7.out.block⟩).mono HB4.out.size)⟩
  · have HWT := Lib.hid (weights_none (c := c) (by omega) h hl)
    rw [show decide (ts.length = l) = false from decide_eq_false hl] at HRI
    clear h hl
    go_enter Try.func3, Try.ntmps3
    go_wp2_with (first
      | (go_at_call 5; refine HWT.out.mono ?_; rintro e w2 ⟨rfl, hb2⟩; have HB2 := Lib.hid hb2; clear hb2)
      | (go_at_call 6; refine (HRI.out _ HB2.out).mono ?_; rintro e w3 ⟨rfl, hb3⟩; have HB3 := Lib.hid (HB2.out.trans (hb3.mono HB2.out.size)); clear hb3)
      | (go_at_call 4; refine (HLV.out _).mono ?_; rintro e w7 ⟨rfl, hb7⟩; have HB7 := Lib.hid (HB3.out.trans (hb7.mono HB3.out.size)); clear hb7))
    go_ret
    exact ⟨rfl, HB7.out⟩
end Go.Proofs.Ytgbbdgoleiolhaa
