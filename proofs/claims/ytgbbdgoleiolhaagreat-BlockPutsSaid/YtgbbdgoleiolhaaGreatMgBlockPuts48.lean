/- Layer 13, plainly: the tokens of bytes may be taken; with a byte less they may not; how many bits a block has. -/
import Derived.Test.YtgbbdgoleiolhaaGreatMgBlockPutsSBkBkP
import Derived.Test.YtgbbdgoleiolhaaGreatMgBlockPuts46
import Derived.Test.YtgbbdgoleiolhaaGreatMgBlockPuts47
import Derived.Test.YtgbbdgoleiolhaaGreatMgBlockPuts24
import Derived.Test.YtgbbdgoleiolhaaGreatMgBlockPuts42
import Derived.Deep.RegionHeld3
namespace Go.Proofs.YtgbbdgoleiolhaaGreat
open BitsP SymP

theorem tokAt_kind (bs : List UInt8) (lv : Int) (p : Nat) : tokAt bs lv p = (bs.getD p 0, 0, 0) ∨
    ∃ n d : Nat, tokAt bs lv p = (0, n, d) ∧ 3 ≤ n ∧ n ≤ 258 ∧ 1 ≤ d ∧ d ≤ 32768 ∧ d ≤ p ∧ p + n ≤ bs.length := by
  unfold tokAt
  split
  · exact .inl rfl
  · rename_i h
    refine .inr ⟨_, _, rfl, ?_⟩
    rcases bestM_of bs (p : Int) (depthN lv) with h0 | ⟨hd, hn⟩
    · exact absurd (.inl (by rw [h0])) h
    · have h3 := lenI_three hd
      have hb := bestM_le bs (p : Int) (depthN lv)
      obtain ⟨_, hc1, hc2, hc3, hc4, _⟩ := cand_of hd
      rw [hn] at hb ⊢
      have hr := lenI_at bs (a := p) (d := (bestM bs (p : Int) (depthN lv)).2) (by omega) hc2 hc3 (by omega)
      rw [hr] at h3 hb ⊢
      have hle := runM_le bs p (bestM bs (p : Int) (depthN lv)).2 (capM bs p) 0
      have hcap : capM bs p ≤ bs.length - p := by unfold capM; omega
      exact ⟨h3, hb, hc2, hc3, by omega, by omega⟩
theorem tokAt_okT (bs : List UInt8) (lv : Int) (p : Nat) : okT (tokAt bs lv p) := by
  rcases tokAt_kind bs lv p with h | ⟨n, d, h, h1, h2, h3, h4, _⟩
  · rw [h]; exact .inl ⟨rfl, rfl⟩
  · rw [h]; exact .inr ⟨h1, h2, h3, h4, rfl⟩
theorem tokAt_fit {bs : List UInt8} {lv : Int} {p : Nat} (hp : p < bs.length) : p + max (tokAt bs lv p).2.1 1 ≤ bs.length ∧ (tokAt bs lv p).2.2 ≤ p := by
  rcases tokAt_kind bs lv p with h | ⟨n, d, h, h1, h2, h3, h4, h5, h6⟩
  · rw [h]; exact ⟨by simp; omega, Nat.zero_le _⟩
  · rw [h]; exact ⟨by show p + max n 1 ≤ _; omega, h5⟩
theorem toks_okT (bs : List UInt8) (lv : Int) : ∀ (k p : Nat), bs.length - p ≤ k → ∀ t ∈ toks bs lv p, okT t
  | 0, p, h => by rw [toks_end (by omega)]; intro t ht; cases ht
  | k + 1, p, h => by
    by_cases hp : p < bs.length
    · have h1 := tsz_pos (tokAt bs lv p)
      rw [toks_step hp]
      intro t ht
      rcases List.mem_cons.1 ht with rfl | ht
      · exact tokAt_okT _ _ _
      · exact toks_okT bs lv k _ (by omega) t ht
    · rw [toks_end (by omega)]; intro t ht; cases ht
theorem toks_good (bs : List UInt8) (lv : Int) : ∀ (k p : Nat), bs.length - p ≤ k → goodT (bs.length : Int) (toks bs lv p) p
  | 0, p, h => by rw [toks_end (by omega)]; trivial
  | k + 1, p, h => by
    by_cases hp : p < bs.length
    · have h1 := tsz_pos (tokAt bs lv p)
      obtain ⟨h2, h3⟩ := tokAt_fit (lv := lv) hp
      rw [toks_step hp]
      exact ⟨tokAt_okT _ _ _, h3, by omega, toks_good bs lv k _ (by omega)⟩
    · rw [toks_end (by omega)]; trivial
/-- Tokens that are too much somewhere. -/
def tooT (most : Int) : List Tk → Nat → Prop
  | [], _ => False
  | t :: ts, size => t.2.2 ≤ size ∧ (most < ((size + max t.2.1 1 : Nat) : Int) ∨ (((size + max t.2.1 1 : Nat) : Int) ≤ most ∧ tooT most ts (size + max t.2.1 1)))
theorem toks_too (bs : List UInt8) (lv : Int) : ∀ (k p : Nat), bs.length - p ≤ k → p < bs.length → tooT ((bs.length : Int) - 1) (toks bs lv p) p
  | 0, p, h, hp => by omega
  | k + 1, p, h, hp => by
    have h1 := tsz_pos (tokAt bs lv p)
    obtain ⟨h2, h3⟩ := tokAt_fit (lv := lv) hp
    rw [toks_step hp]
    refine ⟨h3, ?_⟩
    by_cases hl : p + max (tokAt bs lv p).2.1 1 = bs.length
    · exact .inl (by omega)
    · exact .inr ⟨by omega, toks_too bs lv k _ (by show bs.length - (p + max (tokAt bs lv p).2.1 1) ≤ k; omega) (by show p + max (tokAt bs lv p).2.1 1 < bs.length; omega)⟩
theorem blkL_too {F : List Int → List Bool → Int × Int × Nat} (hF : FunT F) {al : List Tk} {most : Int} {L R : List Bool} : ∀ (k : Nat) (pre ts : List Tk) (size p : Nat), al = pre ++ ts → ts.length < k → (∀ t ∈ ts, okT t) → tooT most ts size →
    L.drop p = toksB (zN (lensW (wt1 al))) (zN (lensW (wt2 al))) ts ++ (symB (zN (lensW (wt1 al))) 256 ++ R) →
    blkL F (zN (lensW (wt1 al))) (zN (lensW (wt2 al))) L most k pre size p = (5, [], 0)
  | 0, pre, ts, size, p, _, hk, _, _, _ => by omega
  | k + 1, pre, [], size, p, ha, _, _, hg, hd => hg.elim
  | k + 1, pre, t :: ts, size, p, ha, hk, hok, hg, hd => by
    have h1 := hok t List.mem_cons_self
    have hin : t ∈ al := by rw [ha]; simp
    obtain ⟨hdist, hg2⟩ := hg
    obtain ⟨hj, hiff, hne⟩ := joinR_back h1
    obtain ⟨x, hx, h0⟩ := wt1_has hin h1
    rw [tokB_parts, List.append_assoc] at hd
    have hc := clsF_back hF (by rw [wt1_len]; omega) (c := cls1 t) (zr := 257) hx h0 (wd1 h1) (cls1_lt h1).2.2 hd
    have hd2 := drop_more hd
    have hy : UInt8.ofNat t.1.toNat = t.1 := by simp
    have ih := fun p' hg' hd' => blkL_too hF (al := al) (most := most) (L := L) (R := R) k (pre ++ [t]) ts (size + max t.2.1 1) p' (by rw [ha]; simp) (by simp at hk; omega) (fun x hx => hok x (List.mem_cons_of_mem _ hx)) hg' hd'
    by_cases hm : isM t = true
    · have h256 := hiff.2 hm
      obtain ⟨x2, hx2, h02⟩ := wt2_has hin h1 hm
      rw [if_pos hm, List.append_assoc] at hd2
      have hc2 := clsF_back hF (by rw [wt2_len]; omega) (c := cls2 t) (zr := 0) hx2 h02 (wd2 h1 hm) (cls2_lt h1).2.2 hd2
      have hd3 := drop_more hd2
      rw [if_pos h256] at hj
      rw [blkL, hc]
      dsimp only
      rw [if_neg (by simp), if_neg hne, hc2]
      dsimp only
      rw [if_neg (by simp), if_pos h256, if_pos h256, hj]
      dsimp only
      rw [if_neg (by omega)]
      rcases hg2 with hg2 | ⟨hg2, hg3⟩
      · rw [if_pos (by omega)]
      · rw [if_neg (by omega), hy, ih _ hg3 hd3]
    · have h256 : ¬ 256 < (cls1 t).1 := fun h => hm (hiff.1 h)
      rw [if_neg hm, List.nil_append] at hd2
      rw [if_neg h256] at hj
      rw [blkL, hc]
      dsimp only
      rw [if_neg (by simp), if_neg hne, if_neg (fun h => h256 h.1), if_neg h256, if_neg h256, hj, Nat.add_zero]
      dsimp only
      rw [if_neg (by omega)]
      rcases hg2 with hg2 | ⟨hg2, hg3⟩
      · rw [if_pos (by omega)]
      · rw [if_neg (by omega), hy, ih _ hg3 hd2]
theorem blkF_too {F : List Int → List Bool → Int × Int × Nat} (hF : FunT F) {ts : List Tk} (hok : ∀ t ∈ ts, okT t) {most : Int} (hg : tooT most ts 0) {L R : List Bool} {p : Nat} (hd : L.drop p = blkB ts ++ R) : blkF F L p most = (5, [], 0) := by
  have hl1 : (lensW (wt1 ts)).length = 273 := by rw [lensW_len, wt1_len]
  have hl2 : (lensW (wt2 ts)).length = 30 := by rw [lensW_len, wt2_len]
  have hr1 : caR (zN (lensW (wt1 ts))) = true := by
    obtain ⟨x, hx, h0⟩ := wt1_end ts
    exact lensW_caR (by rw [wt1_len]; omega) hx h0
  have hr2 : caR (zN (lensW (wt2 ts))) = true := by
    obtain ⟨s, x, hx, h0⟩ := wt2_some ts hok
    exact lensW_caR (by rw [wt2_len]; omega) hx h0
  have hB : blkB ts = tabP (lensW (wt1 ts)) ++ (tabP (lensW (wt2 ts)) ++ (toksB (zN (lensW (wt1 ts))) (zN (lensW (wt2 ts))) ts ++ symB (zN (lensW (wt1 ts))) 256)) := by unfold blkB; simp only [List.append_assoc]
  rw [hB] at hd
  simp only [List.append_assoc] at hd
  have ht1 := tkF_back hF (by rw [hl1]; omega) (by rw [hl1]; omega) (lensW_le (by rw [wt1_len]; omega)) hd
  have hd2 := drop_more hd
  have ht2 := tkF_back hF (by rw [hl2]; omega) (by rw [hl2]; omega) (lensW_le (by rw [wt2_len]; omega)) hd2
  have hd3 := drop_more hd2
  have hge := toksB_ge (al := ts) ts (fun t ht => ⟨ht, hok t ht⟩)
  have hlen := congrArg List.length hd3
  rw [List.length_drop, List.length_append, List.length_append] at hlen
  have hs1 : 1 ≤ (symB (zN (lensW (wt1 ts))) 256).length := by
    obtain ⟨x, hx, h0⟩ := wt1_end ts
    obtain ⟨n, v, k, hy, _, hs, _, _⟩ := lensW_sym (by rw [wt1_len]; omega) hx h0
    have h2 : symB (zN (lensW (wt1 ts))) 256 = codeB v n := hs
    rw [h2, codeB_len]
    exact hy.one
  have hbl := blkL_too hF (al := ts) (most := most) (L := L) (R := R) (L.length + 1 - (p + (tabP (lensW (wt1 ts))).length + (tabP (lensW (wt2 ts))).length)) [] ts 0 (p + (tabP (lensW (wt1 ts))).length + (tabP (lensW (wt2 ts))).length) rfl (by omega) hok hg hd3
  have hz1 : ((lensW (wt1 ts)).map fun n : Nat => (n : Int)) = zN (lensW (wt1 ts)) := rfl
  have hz2 : ((lensW (wt2 ts)).map fun n : Nat => (n : Int)) = zN (lensW (wt2 ts)) := rfl
  unfold blkF
  rw [ht1]
  dsimp only
  rw [if_neg (by simp), ht2]
  dsimp only
  rw [if_neg (by simp), hl1, hl2, if_neg (by omega), hz1, hz2, if_neg (by rw [hr1, hr2]; simp), hbl]
theorem tab_few {ws : List Nat} (hws : ws.length ≤ 320) (hex : ∃ s x : Nat, ws[s]? = some x ∧ 0 < x) : (tabP (lensW ws)).length ≤ 100000 := by
  obtain ⟨s, x, hx, h0⟩ := hex
  have hv := lensW_le hws
  obtain ⟨t, ht⟩ := partsP_ne (ls := lensW ws) (by rw [lensW_len]; have := (List.getElem?_eq_some_iff.1 hx).1; omega)
  have h2 := partsB_len (lnP_right ht (partsP_all hv t ht)) (partsP (lensW ws) 0)
  have h3 := parts_few (lensW ws)
  rw [lensW_len] at h3
  rw [tabP, List.length_append, List.length_append, bitsOf_length, lensB_len, lnP_len]
  omega
theorem blkB_few {ts : List Tk} (hok : ∀ t ∈ ts, okT t) : (blkB ts).length ≤ 200015 + 56 * ts.length := by
  have h1 := tab_few (ws := wt1 ts) (by rw [wt1_len]; omega) (by obtain ⟨x, h1, h2⟩ := wt1_end ts; exact ⟨256, x, h1, h2⟩)
  have h2 := tab_few (ws := wt2 ts) (by rw [wt2_len]; omega) (wt2_some ts hok)
  have hr1 : caR (zN (lensW (wt1 ts))) = true := by
    obtain ⟨x, hx, h0⟩ := wt1_end ts
    exact lensW_caR (by rw [wt1_len]; omega) hx h0
  have hr2 : caR (zN (lensW (wt2 ts))) = true := by
    obtain ⟨s, x, hx, h0⟩ := wt2_some ts hok
    exact lensW_caR (by rw [wt2_len]; omega) hx h0
  have h3 := toksB_len hr1 hr2 hok
  have h4 := symB_len hr1 256
  rw [blkB, List.length_append, List.length_append, List.length_append]
  omega
end Go.Proofs.YtgbbdgoleiolhaaGreat
/- Layer 13: a block of a token goes there and back. -/
namespace Go.Proofs.YtgbbdgoleiolhaaGreat
open Go.RowKit BitsP SymP
attribute [local go_sem ↓] Go.wp_at_zero Go.wp_at_succ

/-- The chapter's token. -/
def tk7 : Tk := (7, 0, 0)
theorem ok7 : ∀ t ∈ [tk7], okT t := fun t ht => by
  obtain rfl : t = tk7 := by simpa using ht
  exact .inl ⟨rfl, rfl⟩
set_option maxRecDepth 100000 in
set_option maxHeartbeats 2000000 in
theorem lives13_any (w : World) : Calls Tryz.prog 6 #[] w fun e w' => e = .returned (.bool true) ∧ Below w.heap.size w w' := by
  obtain ⟨F, hF⟩ := funT_ex
  obtain ⟨W2, hW2⟩ : ∃ W2, (w.alloc (.cells zeroWr 27)).alloc (.cells #[.int .u8 7, .int .i64 0, .int .i64 0] 52) = W2 := ⟨_, rfl⟩
  have HB2 : Hid (Below w.heap.size w W2) := by show Below _ _ _; rw [← hW2]; exact ((Below.refl _ w).alloc (Nat.le_refl _) _).alloc (by simp) _
  have HWR : Hid (WrS W2 w.heap.size w.heap.size (oneB w.heap.size) []) := by
    show WrS _ _ _ _ _
    rw [← hW2]
    exact (WrS.zero _ (heap_alloc_new w _)).keep (Mod.of_below ((Below.refl _ _).alloc (Nat.le_refl _) _)) (fun _ _ h => h)
  have hx := heap_alloc_new (w.alloc (.cells zeroWr 27)) (.cells #[.int .u8 7, .int .i64 0, .int .i64 0] 52)
  rw [hW2, World.size_alloc] at hx
  have hsz : W2.heap.size = w.heap.size + 2 := by rw [← hW2]; simp
  have HTA : Hid (∀ k t, [tk7][k]? = some t → TkAt W2 (some ⟨w.heap.size + 1, 0, none⟩) k (t.1.toNat : Int) (t.2.1 : Int) (t.2.2 : Int)) := fun k t ht => by
    cases k with
    | zero =>
      obtain rfl : tk7 = t := by simpa using ht
      exact ⟨_, 0, rfl, by omega, cell_of_row _ _ 0 _ _ _ hx, cell_of_row _ _ 1 _ _ _ hx, cell_of_row _ _ 2 _ _ _ hx⟩
    | succ k => simp at ht
  have HP := Lib.hid (blkput_any (some ⟨w.heap.size + 1, 0, none⟩) 1 1 w.heap.size w.heap.size [tk7] (oneB w.heap.size) [] W2 rfl (by omega) ok7 HTA.out (fun _ a ha hk => by
    cases ha
    have h2 : w.heap.size + 1 = w.heap.size := hk
    omega) HWR.out (by simp) (by omega))
  rw [List.nil_append] at HP
  obtain ⟨bs, hbs⟩ : ∃ bs, pack (blkB [tk7]) = bs := ⟨_, rfl⟩
  have hun : unpack bs = blkB [tk7] ++ zeros (lack (blkB [tk7]).length) := by rw [← hbs, pack_unpack]
  have hbk : blkF F (unpack bs) 0 1 = (0, [tk7], 0 + (blkB [tk7]).length) := blkF_back hF ok7 (by exact ⟨.inl ⟨rfl, rfl⟩, Nat.le_refl _, by decide, trivial⟩) (by rw [List.drop_zero]; exact hun)
  have hlen : (blkB [tk7]).length ≤ 300000 := by have h := blkB_few ok7; simp at h; omega
  have hbl : bs.length ≤ 300000 := by rw [← hbs]; exact Nat.le_trans (pack_length _) hlen
  have HTK : Hid (∀ (W : World) (base g : Nat) (S : Nat → Prop), RdS W g base S bs 0 → _) := fun W base g S hW => blktake_any F hF g base S bs 0 1 W hW (by omega) (by omega) (by omega)
  rw [hbk] at HTK
  have HPK : Hid (pack (blkB [tk7]) = bs) := hbs
  have HLN := Lib.hid hlen
  have HW2 := Lib.hid hW2
  unfold zeroWr at HW2
  clear hx hbs hun hbk hlen hW2
  go_enter Tryz.func6, Tryz.ntmps6
  go_upto_region 2 with fail
  go_wp2_with fail
  rw [HW2.out]
  go_wp2_with (first
    | (go_at_call 7; refine HP.out.mono ?_; rintro e w3 ⟨rfl, S3, hw3, hm3, hs3⟩; have HW3 := Lib.hid hw3; have HB3 := Lib.hid (hm3.below HB2.out HB2.out.size (fun k hk => by cases hk; exact Nat.le_refl _)); clear hw3 hm3 hs3)
    | (go_at_call 12; refine (wbytes_any w.heap.size w.heap.size S3 (blkB [tk7]) w3 HW3.out (by have := HLN.out; omega)).mono ?_; rintro e w5 ⟨A5, c5, rfl, hown, hbel⟩; rw [HPK.out] at hown; rw [HPK.out]; have HO5 := Lib.hid (Cells.of_own hown); have HB5 := Lib.hid (HB3.out.trans (hbel.mono HB3.out.size)); clear hown hbel)
    | (go_at_call 14; refine (rnew_any A5 bs.length c5 w5.heap.size bs w5 rfl (by omega) (Nat.le_refl _) HO5.out).mono ?_; rintro e w6 ⟨g6, S6, rfl, hrd6, hb6, hS6⟩; have HR6 := Lib.hid hrd6; have HB6 := Lib.hid (HB5.out.trans (hb6.mono HB5.out.size)); have HG6 : Hid (w5.heap.size ≤ g6) := hS6 g6 (rd_low hrd6).2.2; clear hrd6 hb6 hS6)
    | (go_at_call 15; refine (HTK.out w6 w5.heap.size g6 S6 HR6.out).mono ?_; rintro e w7 ⟨A7, c7, p7, t7, rfl, rfl, hown, hrd7, hpe, hm7⟩; obtain ⟨b7, o7, rfl, hb7, hc7⟩ := (cells_of_ownP hown) (by show 0 < 3; decide); have q7 : w7.cell? ⟨b7, o7, none⟩ = some (.int .u8 7) := hc7 0 _ rfl; have HB7 := Lib.hid (hm7.below HB6.out HB6.out.size (fun k hk => by cases hk; have := HG6.out; have := HB5.out.size; omega)); clear hown hrd7 hm7 hpe hb7 hc7))
  go_ret
  exact ⟨rfl, HB7.out⟩
end Go.Proofs.YtgbbdgoleiolhaaGreat
/- Layer 13: the reference's bits of a symbol, and what is behind it. -/
namespace Go.Proofs.YtgbbdgoleiolhaaGreat
open Go.RowKit BitsP SymP
attribute [local go_sem ↓] Go.wp_at_zero Go.wp_at_succ

set_option maxRecDepth 100000 in
set_option maxHeartbeats 1000000 in
theorem rbits13_any (gl gv n : Nat) (ws : List Nat) (c : Nat × Nat × Nat) (w : World) (hws : ws.length = n) (hn : n ≤ 320) {x : Nat} (hx : ws[c.1]? = some x) (h0 : 0 < x) (hl : NB w gl (lensW ws)) (hv : IntBlock w gv (caV (zN (lensW ws)))) (h2 : c.2.1 ≤ 13) (h3 : c.2.2 < 2 ^ c.2.1) :
    Calls Tryz.prog 33 #[.slice (some ⟨gl, 0, none⟩) n n, .slice (some ⟨gv, 0, none⟩) n n, .agg #[.int .i64 (c.1 : Int), .int .i64 (c.2.1 : Int), .int .u32 (c.2.2 : Int)]] w
      fun e w' => ∃ A c', e = .returned (.slice A (clsB (zN (lensW ws)) c).length c') ∧ OwnB w' w.heap.size 5 (.slice A (clsB (zN (lensW ws)) c).length c') (clsB (zN (lensW ws)) c).length (bitBytes (clsB (zN (lensW ws)) c)) ∧ Below w.heap.size w w' := by
  obtain ⟨y, v, k, hy, hyl, hsy, hvl, hy15⟩ := lensW_sym (by omega) hx h0
  have hsn : c.1 < n := by have := (List.getElem?_eq_some_iff.1 hx).1; omega
  have HVV : Hid ((caV (zN (lensW ws)))[c.1]? = some (v : Int)) := hy.val
  have HYL := Lib.hid hyl
  have HNL := Lib.hid hl
  have HIV := Lib.hid hv
  obtain ⟨num, nb, ex⟩ := c
  dsimp only at h2 h3 hsn HVV HYL hsy
  have h32 : ex < 4294967296 := Nat.lt_of_lt_of_le h3 (Nat.le_trans (Nat.pow_le_pow_right (by decide) h2) (by decide))
  have HCB : Hid (clsB (zN (lensW ws)) (num, nb, ex) = codeB v y ++ bitsOf ex nb) := by show _ = _; unfold clsB; rw [hsy]
  have HLEN : Hid ((clsB (zN (lensW ws)) (num, nb, ex)).length = y + nb) := by show _ = _; rw [HCB.out, List.length_append, codeB_len, bitsOf_length]
  have HBY : Hid (byteCells (bitBytes (clsB (zN (lensW ws)) (num, nb, ex))) = byteCells (bitBytes (codeB v y)) ++ byteCells (bitBytes (bitsOf ex nb))) := by show _ = _; rw [HCB.out, bitBytes_append, byteCells_append]
  rw [HLEN.out]
  have HREF := Lib.hid (fun W => refBits_any v y W hvl hy15)
  have HRW := Lib.hid (fun W => refRow_any (ex : Int) (nb : Int) W (by omega) (by omega) (by omega) (by omega))
  rw [cnt_nat (k := nb) (by omega), Int.toNat_natCast] at HRW
  obtain ⟨W1, hW1⟩ : ∃ W1, w.alloc (.cells #[.int .i64 (num : Int), .int .i64 (nb : Int), .int .u32 (ex : Int)] 71) = W1 := ⟨_, rfl⟩
  have HB1 : Hid (Below w.heap.size w W1) := by show Below _ _ _; rw [← hW1]; exact (Below.refl _ w).alloc (Nat.le_refl _) _
  have HX1 : Hid (W1.heap[w.heap.size]? = some (.cells #[.int .i64 (num : Int), .int .i64 (nb : Int), .int .u32 (ex : Int)] 71 (0, 0))) := by show _ = _; rw [← hW1]; exact heap_alloc_new w _
  have HP : Hid (∀ W, Below W1.heap.size W1 W → W.cell? ⟨w.heap.size, 0, none⟩ = some (.int .i64 (num : Int)) ∧ W.cell? ⟨w.heap.size, 1, none⟩ = some (.int .i64 (nb : Int)) ∧ W.cell? ⟨w.heap.size, 2, none⟩ = some (.int .u32 (ex : Int)) ∧ W.cell? ⟨gl, num, none⟩ = some (.int .i64 (y : Int)) ∧ W.cell? ⟨gv, num, none⟩ = some (.int .i64 (v : Int))) := fun W hW => by
    have hlt := HX1.out
    have hz1 : w.heap.size < W1.heap.size := (Array.getElem?_eq_some_iff.1 hlt).1
    have h := (hW.block _ hz1).trans hlt
    have hb := HB1.out.trans (hW.mono HB1.out.size)
    exact ⟨cell_of_row _ _ 0 _ _ _ h, cell_of_row _ _ 1 _ _ _ h, cell_of_row _ _ 2 _ _ _ h, (HNL.out.below hb HNL.out.lt).cell HYL.out, (hb.cell (p := ⟨gv, num, none⟩) (ib_lt HIV.out)).trans (ib_cell HIV.out HVV.out)⟩
  have HW1 := Lib.hid hW1
  clear hws hx h0 hl hv hy hyl hsy hW1
  have S5 := HP.out W1 (Below.refl _ _)
  have i0 : (0 : Int) ≤ (num : Int) := by omega
  have i1 : (num : Int) < (n : Int) := by omega
  go_enter Tryz.func33, Tryz.ntmps33
  go_upto_region 1 with fail
  rw [HW1.out]
  have S6 : W1.cell? ⟨w.heap.size, 0, none⟩ = some (.int .i64 (num : Int)) ∧ W1.cell? ⟨gl, num, none⟩ = some (.int .i64 (y : Int)) ∧ W1.cell? ⟨gv, num, none⟩ = some (.int .i64 (v : Int)) := ⟨S5.1, S5.2.2.2⟩
  go_region_held3 (fun W => W.cell? ⟨w.heap.size, 0, none⟩ = some (.int .i64 (num : Int)) ∧ W.cell? ⟨gl, num, none⟩ = some (.int .i64 (y : Int)) ∧ W.cell? ⟨gv, num, none⟩ = some (.int .i64 (v : Int))) (first | exact S6 | exact S7)
    ((go_at_call 56; refine (HREF.out _).mono ?_; rintro e w6 ⟨A6, c6, rfl, hown, hbel⟩; have HO6 := Lib.hid (own_leP hown HB1.out.size); have HB6 := Lib.hid ((Below.refl W1.heap.size W1).drew.trans (hbel.mono (Nat.le_refl _))); clear hown hbel; have S8 := HP.out _ HB6.out; have S7 := And.intro S8.1 S8.2.2.2))
  have HB7 : Hid (Below w.heap.size w w6) := HB1.out.trans (HB6.out.mono HB1.out.size)
  obtain ⟨_, c1, c2, _, _⟩ := HP.out w6 HB6.out
  go_wp2_with (first
    | (go_at_call 41; refine (HRW.out _).mono ?_; rintro e w8 ⟨A8, c8, rfl, ho8, hb8⟩; have HO8 := Lib.hid (Cells.of_own ho8); have HOW8 := Lib.hid (own_keep HO6.out (Mod.of_below hb8) (fun _ _ h => h)); have HB8 := Lib.hid (HB7.out.trans (hb8.mono HB7.out.size)); clear ho8 hb8)
    | (at_builtin; refine wpList_app w8 byteElem3 rfl (.tmp 19) (.tmp 24) rfl w.heap.size (.slice A6 y c6) y (byteCells (bitBytes (codeB v y))) rfl HOW8.out w8.heap.size A8 nb c8 (byteCells (bitBytes (bitsOf ex nb))) rfl (by rw [byteCells_length, bitBytes_length, bitsOf_length, Nat.mul_one]) HO8.out (byteCells_one _) (by unfold maxLen; omega) (by omega) HB8.out.size ?_; intro A10 c10 w10 hA10; have HA10 := Lib.hid hA10; clear hA10))
  go_ret
  refine ⟨A10, c10, rfl, ?_, HA10.out.below HB8.out HB8.out.size (own_base HOW8.out)⟩
  have h := HA10.out.own
  unfold OwnB
  rw [HBY.out]
  exact h
end Go.Proofs.YtgbbdgoleiolhaaGreat
/- Layer 13: the reference's Put. -/
namespace Go.Proofs.YtgbbdgoleiolhaaGreat
open Go.RowKit BitsP SymP
attribute [local go_sem ↓] Go.wp_at_zero Go.wp_at_succ

theorem IntBlock.below13 {w W : World} {g B : Nat} {xs : List Int} (h : IntBlock w g xs) (hb : Below B w W) (hg : g < B) : IntBlock W g xs := (hb.block g hg).trans h
set_option maxRecDepth 100000 in
set_option maxHeartbeats 8000000 in
theorem rput13_any (A : Option Addr) (l c : Nat) (ts : List Tk) (w : World) (hl : ts.length = l) (hm : l ≤ 65536) (hk : ∀ t ∈ ts, okT t) (hc : ∀ k t, ts[k]? = some t → TkAt w A k (t.1.toNat : Int) (t.2.1 : Int) (t.2.2 : Int)) :
    Calls Tryz.prog 11 #[.slice A l c] w fun e w' => ∃ A' c', e = .returned (.slice A' (blkB ts).length c') ∧ OwnB w' w.heap.size 5 (.slice A' (blkB ts).length c') (blkB ts).length (bitBytes (blkB ts)) ∧ Below w.heap.size w w' := by
  have HWT := Lib.hid (rweights_any A l c ts w hl hm hk hc)
  have HK := Lib.hid hk
  have HL := Lib.hid hl
  have HC := Lib.hid hc
  have HR1 : Hid (caR (zN (lensW (wt1 ts))) = true) := by
    obtain ⟨x, hx, h0⟩ := wt1_end ts
    exact lensW_caR (by rw [wt1_len]; omega) hx h0
  have HR2 : Hid (caR (zN (lensW (wt2 ts))) = true) := by
    obtain ⟨s, x, hx, h0⟩ := wt2_some ts hk
    exact lensW_caR (by rw [wt2_len]; omega) hx h0
  have HTL1 := Lib.hid (tab_few (ws := wt1 ts) (by rw [wt1_len]; omega) (by obtain ⟨x, h1, h2⟩ := wt1_end ts; exact ⟨256, x, h1, h2⟩))
  have HTL2 := Lib.hid (tab_few (ws := wt2 ts) (by rw [wt2_len]; omega) (wt2_some ts hk))
  have HO1 : Hid (∀ x ∈ wt1 ts, x ≤ 1073741824) := fun x hx => by
    have h1 := incW_le 273 _ x hx
    rw [List.length_append, fsts, List.length_map, HL.out] at h1
    simp at h1
    omega
  have HO2 : Hid (∀ x ∈ wt2 ts, x ≤ 1073741824) := fun x hx => by
    have h1 := incW_le 30 _ x hx
    have h2 := mts_len ts
    split at h1
    · simp at h1; omega
    · have := HL.out; omega
  have HE1 : Hid (∃ x : Nat, (wt1 ts)[256]? = some x ∧ 0 < x) := wt1_end ts
  have HH1 : Hid (∀ t ∈ ts, ∃ x, (wt1 ts)[(cls1 t).1]? = some x ∧ 0 < x) := fun t ht => wt1_has ht (hk t ht)
  have HH2 : Hid (∀ t ∈ ts, isM t = true → ∃ x, (wt2 ts)[(cls2 t).1]? = some x ∧ 0 < x) := fun t ht hm => wt2_has ht (hk t ht) hm
  have HBLK : Hid (blkB ts = (tabP (lensW (wt1 ts)) ++ tabP (lensW (wt2 ts))) ++ toksB (zN (lensW (wt1 ts))) (zN (lensW (wt2 ts))) ts ++ symB (zN (lensW (wt1 ts))) 256) := rfl
  have W1L : Hid ((wt1 ts).length = 273) := wt1_len ts
  have W2L : Hid ((wt2 ts).length = 30) := wt2_len ts
  have HTOK : Hid (∀ k, (toksB (zN (lensW (wt1 ts))) (zN (lensW (wt2 ts))) (ts.take k)).length ≤ 3700000) := fun k => by
    have h := toksB_len HR1.out HR2.out (ts := ts.take k) (fun t ht => hk t (List.mem_of_mem_take ht))
    rw [List.length_take] at h
    omega
  obtain ⟨u1, hu1⟩ : ∃ u1, wt1 ts = u1 := ⟨_, rfl⟩
  obtain ⟨u2, hu2⟩ : ∃ u2, wt2 ts = u2 := ⟨_, rfl⟩
  rw [hu1, hu2] at HWT HBLK HTOK
  rw [hu1] at HR1 HTL1 HO1 HE1 HH1 W1L
  rw [hu2] at HR2 HTL2 HO2 HH2 W2L
  have HM4L : Hid ((tabP (lensW u1) ++ tabP (lensW u2)).length ≤ 200000) := by have := HTL1.out; have := HTL2.out; show _ ≤ _; rw [List.length_append]; omega
  obtain ⟨z1, hz1⟩ : ∃ z1, zN (lensW u1) = z1 := ⟨_, rfl⟩
  obtain ⟨z2, hz2⟩ : ∃ z2, zN (lensW u2) = z2 := ⟨_, rfl⟩
  obtain ⟨M4, hM4⟩ : ∃ M4, tabP (lensW u1) ++ tabP (lensW u2) = M4 := ⟨_, rfl⟩
  rw [hz1] at HR1
  rw [hz2] at HR2
  rw [hz1, hz2] at HTOK
  rw [hM4] at HM4L
  rw [hz1, hz2, hM4] at HBLK
  have HZ1 := Lib.hid hz1
  have HZ2 := Lib.hid hz2
  have HM4 := Lib.hid hM4
  rw [HBLK.out]
  clear hk hc hl hu1 hu2 HBLK hz1 hz2 hM4
  go_enter Tryz.func11, Tryz.ntmps11
  go_wp2_with fail
  refine HWT.out.mono ?_
  rintro e w2 ⟨hb2, g1, g2, rfl, hn1, hn2, hg1, hg2⟩
  have HB2 := Lib.hid hb2
  have HLN1 := Lib.hid (refLen_ok (some ⟨g1, 0, none⟩) 273 273 u1 w2.heap.size w2 W1L.out (by omega) (NB.cellsN hn1) (Nat.le_refl _) HO1.out)
  have HLN2 : Hid (∀ W, Below w2.heap.size w2 W → _) := fun W hW => refLen_ok (some ⟨g2, 0, none⟩) 30 30 u2 W.heap.size W W2L.out (by omega) (NB.cellsN (hn2.below hW hn2.lt)) (Nat.le_refl _) HO2.out
  have HV1 : Hid (∀ W g, NB W g (lensW u1) → Calls Tryz.prog 30 #[.slice (some ⟨g, 0, none⟩) 273 273] W fun e w' => e = .returned (.slice (some ⟨W.heap.size, 0, none⟩) 273 273) ∧ IntBlock w' W.heap.size (caV (zN (lensW u1))) ∧ Below W.heap.size W w') := fun W g hW =>
    ref8Values_any (some ⟨g, 0, none⟩) 273 273 (zN (lensW u1)) W.heap.size W (by rw [zN_len, lensW_len]; exact W1L.out) (by omega) (by have h := hW.cellsN; rw [zN_cs] at h; exact h) (Nat.le_refl _)
  have HV2 : Hid (∀ W g, NB W g (lensW u2) → Calls Tryz.prog 30 #[.slice (some ⟨g, 0, none⟩) 30 30] W fun e w' => e = .returned (.slice (some ⟨W.heap.size, 0, none⟩) 30 30) ∧ IntBlock w' W.heap.size (caV (zN (lensW u2))) ∧ Below W.heap.size W w') := fun W g hW =>
    ref8Values_any (some ⟨g, 0, none⟩) 30 30 (zN (lensW u2)) W.heap.size W (by rw [zN_len, lensW_len]; exact W2L.out) (by omega) (by have h := hW.cellsN; rw [zN_cs] at h; exact h) (Nat.le_refl _)
  clear hb2 hn1 hn2 HWT
  go_wp2_with (first
    | (go_at_call 29; refine HLN1.out.mono ?_; rintro e w3 ⟨rfl, hn3, hb3⟩; clear HLN1; have HN3 := Lib.hid hn3; have HB3 := Lib.hid hb3; clear hn3 hb3)
    | (go_at_call 29; refine (HLN2.out w3 HB3.out).mono ?_; rintro e w4 ⟨rfl, hn4, hb4⟩; clear HLN2; have HN4 := Lib.hid hn4; have HB4 := Lib.hid hb4; have HN34 := Lib.hid (HN3.out.below hb4 HN3.out.lt); clear hn4 hb4)
    | (go_at_call 30; refine (HV1.out w4 _ HN34.out).mono ?_; rintro e w5 ⟨rfl, hi5, hb5⟩; clear HV1; have HI5 := Lib.hid hi5; have HB5 := Lib.hid hb5; have HN45 := Lib.hid (HN4.out.below hb5 HN4.out.lt); have HN35 := Lib.hid (HN34.out.below hb5 HN34.out.lt); clear hi5 hb5)
    | (go_at_call 30; refine (HV2.out w5 _ HN45.out).mono ?_; rintro e w6 ⟨rfl, hi6, hb6⟩; clear HV2; have HI6 := Lib.hid hi6; have HB6 := Lib.hid hb6; have HF6 := Lib.hid (And.intro (HN35.out.below hb6 HN35.out.lt) (And.intro (HN45.out.below hb6 HN45.out.lt) (And.intro (IntBlock.below13 HI5.out hb6 (ib_lt HI5.out)) hi6))); clear hi6 hb6; have HWB : Hid (Below w.heap.size w w6) := ((((HB2.out.trans (HB3.out.mono HB2.out.size)).trans (HB4.out.mono (Nat.le_trans HB2.out.size HB3.out.size))).trans (HB5.out.mono (Nat.le_trans (Nat.le_trans HB2.out.size HB3.out.size) HB4.out.size))).trans (HB6.out.mono (Nat.le_trans (Nat.le_trans (Nat.le_trans HB2.out.size HB3.out.size) HB4.out.size) HB5.out.size))); have HP1 := Lib.hid (rput9_any (some ⟨w2.heap.size, 0, none⟩) 273 273 (lensW u1) w6 (by rw [lensW_len]; exact W1L.out) (by omega) (by omega) (lensW_le (by rw [W1L.out]; omega)) (NB.cellsN HF6.out.1)); have HP2 : Hid (∀ W, Below w6.heap.size w6 W → _) := (fun W hW => rput9_any (some ⟨w3.heap.size, 0, none⟩) 30 30 (lensW u2) W (by rw [lensW_len]; exact W2L.out) (by omega) (by omega) (lensW_le (by rw [W2L.out]; omega)) (NB.cellsN (HF6.out.2.1.below hW HF6.out.2.1.lt))))
    | (go_at_call 31; refine HP1.out.mono ?_; rintro e w7 ⟨A7, c7, rfl, ho7, hb7⟩; clear HP1; have HO7 := Lib.hid ho7; have HB7 := Lib.hid hb7; clear ho7 hb7)
    | (go_at_call 31; refine (HP2.out w7 HB7.out).mono ?_; rintro e w8 ⟨A8, c8, rfl, ho8, hb8⟩; clear HP2; have HO8 := Lib.hid (Cells.of_own ho8); have HO78 := Lib.hid (own_keep HO7.out (Mod.of_below hb8) (fun _ _ h => h)); have HB8 := Lib.hid (HB7.out.trans (hb8.mono HB7.out.size)); clear ho8 hb8)
    | (at_builtin; have htl1 := HTL1.out; have htl2 := HTL2.out; refine wpList_app w8 byteElem3 rfl (.tmp 28) (.tmp 30) rfl w6.heap.size (.slice A7 (tabP (lensW u1)).length c7) (tabP (lensW u1)).length (byteCells (bitBytes (tabP (lensW u1)))) rfl HO78.out w8.heap.size A8 (tabP (lensW u2)).length c8 (byteCells (bitBytes (tabP (lensW u2)))) rfl (by rw [byteCells_length, bitBytes_length, Nat.mul_one]) HO8.out (byteCells_one _) (by unfold maxLen; omega) (by omega) HB8.out.size ?_; clear htl1 htl2; intro A9 c9 w9 hA9; have HA9 := Lib.hid hA9; clear hA9))
  obtain ⟨m0, hm0⟩ : ∃ m0, (tabP (lensW u1)).length + (tabP (lensW u2)).length = m0 := ⟨_, rfl⟩
  have HM0 : Hid ((M4 ++ toksB z1 z2 (ts.take 0)).length = m0) := by
    show _ = _
    rw [show M4 ++ toksB z1 z2 (ts.take 0) = M4 by simp [toksB], ← HM4.out, List.length_append, hm0]
  have HROW0 : Hid (OwnB w9 w6.heap.size 5 (.slice A9 m0 c9) m0 (bitBytes (M4 ++ toksB z1 z2 (ts.take 0)))) := by
    show OwnB _ _ _ _ _ _
    have h := HA9.out.own
    rw [← byteCells_append, ← bitBytes_append, hm0, HM4.out] at h
    rw [show M4 ++ toksB z1 z2 (ts.take 0) = M4 by simp [toksB]]
    exact h
  have HB9 : Hid (Below w6.heap.size w6 w9) := HA9.out.below HB8.out HB8.out.size (own_base HO78.out)
  rw [hm0]
  obtain ⟨gl1, hgl1⟩ : ∃ g, w2.heap.size = g := ⟨_, rfl⟩
  obtain ⟨gl2, hgl2⟩ : ∃ g, w3.heap.size = g := ⟨_, rfl⟩
  obtain ⟨gv1, hgv1⟩ : ∃ g, w4.heap.size = g := ⟨_, rfl⟩
  obtain ⟨gv2, hgv2⟩ : ∃ g, w5.heap.size = g := ⟨_, rfl⟩
  have HBT1 : Hid (∀ (W : World) (q : Nat × Nat × Nat) (x : Nat), Below w6.heap.size w6 W → u1[q.1]? = some x → 0 < x → q.2.1 ≤ 13 → q.2.2 < 2 ^ q.2.1 → _) := fun W q x hW hx h0 h2 h3 => rbits13_any w2.heap.size w4.heap.size 273 u1 q W W1L.out (by omega) hx h0 (HF6.out.1.below hW HF6.out.1.lt) (IntBlock.below13 HF6.out.2.2.1 hW (ib_lt HF6.out.2.2.1)) h2 h3
  have HBT2 : Hid (∀ (W : World) (q : Nat × Nat × Nat) (x : Nat), Below w6.heap.size w6 W → u2[q.1]? = some x → 0 < x → q.2.1 ≤ 13 → q.2.2 < 2 ^ q.2.1 → _) := fun W q x hW hx h0 h2 h3 => rbits13_any w3.heap.size w5.heap.size 30 u2 q W W2L.out (by omega) hx h0 (HF6.out.2.1.below hW HF6.out.2.1.lt) (IntBlock.below13 HF6.out.2.2.2 hW (ib_lt HF6.out.2.2.2)) h2 h3
  rw [HZ1.out, hgl1, hgv1] at HBT1
  rw [HZ2.out, hgl2, hgv2] at HBT2
  rw [hgl1, hgl2, hgv1, hgv2]
  clear hm0 hgl1 hgl2 hgv1 hgv2 HA9 HO78 HO8 HO7 HB8 HB7 HN34 HN45 HN35 HN3 HN4 HI5 HI6 HB2 HB3 HB4 HB5 HB6 HF6
  go_wp2
  go_loopg [9, 10] l (fun gk v i wr => ∃ k : Nat, k + gk = l ∧ i = .int .i64 (k : Int) ∧ OwnB wr w6.heap.size 5 v (M4 ++ toksB z1 z2 (ts.take k)).length (bitBytes (M4 ++ toksB z1 z2 (ts.take k))) ∧ Below w6.heap.size w6 wr)
  case atStart => exact ⟨0, by omega, rfl, by rw [HM0.out]; exact HROW0.out, HB9.out⟩
  case round =>
    obtain ⟨k, hkg, rfl, hrow, hbel⟩ := hrel
    obtain ⟨A3, c3, rfl⟩ := own_form hrow
    have HBEL := Lib.hid hbel
    have htb := HTOK.out k
    have hm4 := HM4L.out
    obtain ⟨M3, hM3⟩ : ∃ M3, M4 ++ toksB z1 z2 (ts.take k) = M3 := ⟨_, rfl⟩
    have hlen : M3.length ≤ 4000000 := by rw [← hM3, List.length_append]; omega
    rw [hM3] at hrow
    rw [hM3]
    obtain ⟨m3, hm3⟩ : ∃ m3, M3.length = m3 := ⟨_, rfl⟩
    have HM3L := Lib.hid hm3
    rw [hm3] at hrow hlen
    rw [hm3]
    have HROW := Lib.hid hrow
    have HM3 := Lib.hid hM3
    clear hrow hbel htb hm4 HROW0 HB9 hm3 hM3
    by_cases hkl : k < l
    · obtain ⟨t, ht⟩ : ∃ t, ts[k]? = some t := ⟨_, List.getElem?_eq_getElem (by rw [HL.out]; exact hkl)⟩
      have hin := List.mem_of_getElem? ht
      have hok := HK.out t hin
      have HSP := Lib.hid (fun W => rsplitT_any t W hok)
      have hc1 := cls1_lt hok
      have hc2 := cls2_lt hok
      have HX1 := Lib.hid (HH1.out t hin)
      have HX2 := Lib.hid (HH2.out t hin)
      have HTO : Hid (M4 ++ toksB z1 z2 (ts.take (k + 1)) = M3 ++ (clsB z1 (cls1 t) ++ (if isM t then clsB z2 (cls2 t) else []))) := by
        show _ = _
        rw [← HM3.out, List.append_assoc]
        congr 1
        rw [List.take_add_one, ht]
        exact toksB_snoc z1 z2 (ts.take k) t
      obtain ⟨b, o, rfl, hbB, v0, v1, v2⟩ := ((HC.out k t ht).below HWB.out).below HBEL.out
      obtain ⟨⟨n1, b1, x1⟩, hq1⟩ : ∃ q, cls1 t = q := ⟨_, rfl⟩
      obtain ⟨⟨n2, b2, x2⟩, hq2⟩ : ∃ q, cls2 t = q := ⟨_, rfl⟩
      rw [hq1] at HSP HTO hc1 HX1
      rw [hq2] at HSP HTO hc2 HX2
      obtain ⟨m, hmm⟩ : ∃ m, isM t = m := ⟨_, rfl⟩
      rw [hmm] at HSP HTO HX2
      dsimp only at HSP hc1 hc2 HX1 HX2
      have hcl1 := clsB_len HR1.out (c := (n1, b1, x1)) hc1.2.1
      have hcl2 := clsB_len HR2.out (c := (n2, b2, x2)) hc2.2.1
      clear ht hin hok hq1 hq2 hmm hbB
      cases m with
      | true =>
        obtain ⟨y1, hy1, hp1⟩ := HX1.out
        obtain ⟨y2, hy2, hp2⟩ := HX2.out rfl
        have HBB2 : Hid (∀ W, Below w6.heap.size w6 W → _) := fun W hW => HBT2.out W (n2, b2, x2) y2 hW hy2 hp2 hc2.2.1 hc2.2.2
        obtain ⟨Q2, hQ2⟩ : ∃ Q2, clsB z2 (n2, b2, x2) = Q2 := ⟨_, rfl⟩
        rw [hQ2] at HTO HBB2 hcl2
        dsimp only at HBB2
        clear hy2 hp2 hQ2
        have HLF : Hid ((M4 ++ toksB z1 z2 (ts.take (k + 1))).length = m3 + (clsB z1 (n1, b1, x1)).length + Q2.length) := by show _ = _; rw [HTO.out]; simp only [if_true, List.length_append]; rw [HM3L.out]; omega
        have HBF : Hid (byteCells (bitBytes (M4 ++ toksB z1 z2 (ts.take (k + 1)))) = byteCells (bitBytes M3) ++ (byteCells (bitBytes (clsB z1 (n1, b1, x1))) ++ byteCells (bitBytes Q2))) := by show _ = _; rw [HTO.out]; simp only [if_true, bitBytes_append, byteCells_append]
        have HBB1 : Hid (∀ W, Below w6.heap.size w6 W → _) := fun W hW => HBT1.out W (n1, b1, x1) y1 hW hy1 hp1 hc1.2.1 hc1.2.2
        obtain ⟨Q1, hQ1⟩ : ∃ Q1, clsB z1 (n1, b1, x1) = Q1 := ⟨_, rfl⟩
        rw [hQ1] at HLF HBF HBB1 hcl1
        dsimp only at HBB1
        clear hy1 hp1 hQ1
        go_upto_region 9 with (go_at_call 32; refine (HSP.out _).mono ?_; rintro e w4 ⟨rfl, hb4⟩; unfold agC; obtain ⟨W5, hW5⟩ : ∃ W5, (w4.alloc (.cells #[.int .i64 (n1 : Int), .int .i64 (b1 : Int), .int .u32 (x1 : Int)] 71)).alloc (.cells #[.int .i64 (n2 : Int), .int .i64 (b2 : Int), .int .u32 (x2 : Int)] 71) = W5 := ⟨_, rfl⟩; have hb6 : Below wr.heap.size wr W5 := (by rw [← hW5]; exact (hb4.alloc hb4.size _).alloc (by have := hb4.size; simp; omega) _); have hx5 : W5.heap[w4.heap.size]? = some (.cells #[.int .i64 (n1 : Int), .int .i64 (b1 : Int), .int .u32 (x1 : Int)] 71 (0, 0)) := (by rw [← hW5]; exact (Below.heap_alloc _ _ _ (by simp)).trans (heap_alloc_new w4 _)); have hy5 : W5.heap[w4.heap.size + 1]? = some (.cells #[.int .i64 (n2 : Int), .int .i64 (b2 : Int), .int .u32 (x2 : Int)] 71 (0, 0)) := (by rw [← hW5]; have h := heap_alloc_new (w4.alloc (.cells #[.int .i64 (n1 : Int), .int .i64 (b1 : Int), .int .u32 (x1 : Int)] 71)) (.cells #[.int .i64 (n2 : Int), .int .i64 (b2 : Int), .int .u32 (x2 : Int)] 71); rw [World.size_alloc] at h; exact h); have hs4 : wr.heap.size ≤ w4.heap.size := hb4.size; have HW5 := Lib.hid hW5; clear hW5 hb4)
        rw [HW5.out]
        have HB5 := Lib.hid (HBEL.out.trans (hb6.mono HBEL.out.size))
        have HROW5 := Lib.hid (own_keep HROW.out (Mod.of_below hb6) (fun _ _ h => h))
        have HY5 := Lib.hid hy5
        have r0 : W5.cell? ⟨w4.heap.size, 0, none⟩ = some (.int .i64 (n1 : Int)) := cell_of_row _ _ 0 _ _ _ hx5
        have r1 : W5.cell? ⟨w4.heap.size, 1, none⟩ = some (.int .i64 (b1 : Int)) := cell_of_row _ _ 1 _ _ _ hx5
        have r2 : W5.cell? ⟨w4.heap.size, 2, none⟩ = some (.int .u32 (x1 : Int)) := cell_of_row _ _ 2 _ _ _ hx5
        have HLT : Hid (∀ j, ownS (.slice A3 m3 c3) j → j < wr.heap.size) := fun j hj => (HROW.out.lt j hj).2
        clear hb6 hx5 hy5 HW5
        go_wp2_with (first
          | (go_at_call 33; refine (HBB1.out W5 HB5.out).mono ?_; rintro e w7 ⟨A7, c7, rfl, ho7, hb7⟩; clear HBB1; have HO7 := Lib.hid (Cells.of_own ho7); have HROW7 := Lib.hid (own_keep HROW5.out (Mod.of_below hb7) (fun _ _ h => h)); have HB7 := Lib.hid (HB5.out.trans (hb7.mono HB5.out.size)); have HY7 := Lib.hid ((hb7.block _ (Array.getElem?_eq_some_iff.1 HY5.out).1).trans HY5.out); clear ho7 hb7)
          | (at_builtin; refine wpList_app w7 byteElem3 rfl (.tmp 47) (.tmp 51) rfl w6.heap.size (.slice A3 m3 c3) m3 (byteCells (bitBytes M3)) rfl HROW7.out w7.heap.size A7 Q1.length c7 (byteCells (bitBytes Q1)) rfl (by rw [byteCells_length, bitBytes_length, Nat.mul_one]) HO7.out (byteCells_one _) (by unfold maxLen; omega) (by omega) HB7.out.size ?_; intro A8 c8 w8 hA; have HA := Lib.hid hA; have HB8 := Lib.hid (hA.below HB7.out HB7.out.size (own_base HROW7.out)); have hy8 := (Mod.of_app hA).keep HY7.out (fun h => by have := HLT.out _ h; omega); have r3 : w8.cell? ⟨w4.heap.size + 1, 0, none⟩ = some (.int .i64 (n2 : Int)) := cell_of_row _ _ 0 _ _ _ hy8; have r4 : w8.cell? ⟨w4.heap.size + 1, 1, none⟩ = some (.int .i64 (b2 : Int)) := cell_of_row _ _ 1 _ _ _ hy8; have r5 : w8.cell? ⟨w4.heap.size + 1, 2, none⟩ = some (.int .u32 (x2 : Int)) := cell_of_row _ _ 2 _ _ _ hy8; clear hA hy8)
          | (go_at_call 33; refine (HBB2.out w8 HB8.out).mono ?_; rintro e w9 ⟨A9, c9, rfl, ho9, hb9⟩; have HO9 := Lib.hid (Cells.of_own ho9); have HROW9 := Lib.hid (own_keep HA.out.own (Mod.of_below hb9) (fun _ _ h => h)); have HB9 := Lib.hid (HB8.out.trans (hb9.mono HB8.out.size)); clear ho9 hb9)
          | (at_builtin; refine wpList_app w9 byteElem3 rfl (.tmp 54) (.tmp 58) rfl w6.heap.size (.slice A8 (m3 + Q1.length) c8) (m3 + Q1.length) (byteCells (bitBytes M3) ++ byteCells (bitBytes Q1)) rfl HROW9.out w9.heap.size A9 Q2.length c9 (byteCells (bitBytes Q2)) rfl (by rw [byteCells_length, bitBytes_length, Nat.mul_one]) HO9.out (byteCells_one _) (by unfold maxLen; omega) (by omega) HB9.out.size ?_; intro A10 c10 w10 hA; have HA10 := Lib.hid hA; clear hA))
        go_roundg (gk - 1)
        case measure => omega
        case rel =>
          refine ⟨k + 1, by omega, by go_num, ?_, HA10.out.below HB9.out HB9.out.size (own_base HROW9.out)⟩
          have h := HA10.out.own
          rw [List.append_assoc] at h
          rw [HLF.out]
          unfold OwnB
          rw [HBF.out]
          exact h
      | false =>
        obtain ⟨y1, hy1, hp1⟩ := HX1.out
        have HLF : Hid ((M4 ++ toksB z1 z2 (ts.take (k + 1))).length = m3 + (clsB z1 (n1, b1, x1)).length) := by show _ = _; rw [HTO.out]; simp only [Bool.false_eq_true, if_false, List.append_nil, List.length_append]; rw [HM3L.out]
        have HBF : Hid (byteCells (bitBytes (M4 ++ toksB z1 z2 (ts.take (k + 1)))) = byteCells (bitBytes M3) ++ byteCells (bitBytes (clsB z1 (n1, b1, x1)))) := by show _ = _; rw [HTO.out]; simp only [Bool.false_eq_true, if_false, List.append_nil, bitBytes_append, byteCells_append]
        have HBB1 : Hid (∀ W, Below w6.heap.size w6 W → _) := fun W hW => HBT1.out W (n1, b1, x1) y1 hW hy1 hp1 hc1.2.1 hc1.2.2
        obtain ⟨Q1, hQ1⟩ : ∃ Q1, clsB z1 (n1, b1, x1) = Q1 := ⟨_, rfl⟩
        rw [hQ1] at HLF HBF HBB1 hcl1
        dsimp only at HBB1
        clear hy1 hp1 hQ1
        go_upto_region 9 with (go_at_call 32; refine (HSP.out _).mono ?_; rintro e w4 ⟨rfl, hb4⟩; unfold agC; obtain ⟨W5, hW5⟩ : ∃ W5, (w4.alloc (.cells #[.int .i64 (n1 : Int), .int .i64 (b1 : Int), .int .u32 (x1 : Int)] 71)).alloc (.cells #[.int .i64 (n2 : Int), .int .i64 (b2 : Int), .int .u32 (x2 : Int)] 71) = W5 := ⟨_, rfl⟩; have hb6 : Below wr.heap.size wr W5 := (by rw [← hW5]; exact (hb4.alloc hb4.size _).alloc (by have := hb4.size; simp; omega) _); have hx5 : W5.heap[w4.heap.size]? = some (.cells #[.int .i64 (n1 : Int), .int .i64 (b1 : Int), .int .u32 (x1 : Int)] 71 (0, 0)) := (by rw [← hW5]; exact (Below.heap_alloc _ _ _ (by simp)).trans (heap_alloc_new w4 _)); have hy5 : W5.heap[w4.heap.size + 1]? = some (.cells #[.int .i64 (n2 : Int), .int .i64 (b2 : Int), .int .u32 (x2 : Int)] 71 (0, 0)) := (by rw [← hW5]; have h := heap_alloc_new (w4.alloc (.cells #[.int .i64 (n1 : Int), .int .i64 (b1 : Int), .int .u32 (x1 : Int)] 71)) (.cells #[.int .i64 (n2 : Int), .int .i64 (b2 : Int), .int .u32 (x2 : Int)] 71); rw [World.size_alloc] at h; exact h); have hs4 : wr.heap.size ≤ w4.heap.size := hb4.size; have HW5 := Lib.hid hW5; clear hW5 hb4)
        rw [HW5.out]
        have HB5 := Lib.hid (HBEL.out.trans (hb6.mono HBEL.out.size))
        have HROW5 := Lib.hid (own_keep HROW.out (Mod.of_below hb6) (fun _ _ h => h))
        have HY5 := Lib.hid hy5
        have r0 : W5.cell? ⟨w4.heap.size, 0, none⟩ = some (.int .i64 (n1 : Int)) := cell_of_row _ _ 0 _ _ _ hx5
        have r1 : W5.cell? ⟨w4.heap.size, 1, none⟩ = some (.int .i64 (b1 : Int)) := cell_of_row _ _ 1 _ _ _ hx5
        have r2 : W5.cell? ⟨w4.heap.size, 2, none⟩ = some (.int .u32 (x1 : Int)) := cell_of_row _ _ 2 _ _ _ hx5
        have HLT : Hid (∀ j, ownS (.slice A3 m3 c3) j → j < wr.heap.size) := fun j hj => (HROW.out.lt j hj).2
        clear hb6 hx5 hy5 HW5
        go_wp2_with (first
          | (go_at_call 33; refine (HBB1.out W5 HB5.out).mono ?_; rintro e w7 ⟨A7, c7, rfl, ho7, hb7⟩; clear HBB1; have HO7 := Lib.hid (Cells.of_own ho7); have HROW7 := Lib.hid (own_keep HROW5.out (Mod.of_below hb7) (fun _ _ h => h)); have HB7 := Lib.hid (HB5.out.trans (hb7.mono HB5.out.size)); have HY7 := Lib.hid ((hb7.block _ (Array.getElem?_eq_some_iff.1 HY5.out).1).trans HY5.out); clear ho7 hb7)
          | (at_builtin; refine wpList_app w7 byteElem3 rfl (.tmp 47) (.tmp 51) rfl w6.heap.size (.slice A3 m3 c3) m3 (byteCells (bitBytes M3)) rfl HROW7.out w7.heap.size A7 Q1.length c7 (byteCells (bitBytes Q1)) rfl (by rw [byteCells_length, bitBytes_length, Nat.mul_one]) HO7.out (byteCells_one _) (by unfold maxLen; omega) (by omega) HB7.out.size ?_; intro A8 c8 w8 hA; have HA := Lib.hid hA; have HB8 := Lib.hid (hA.below HB7.out HB7.out.size (own_base HROW7.out)); have hy8 := (Mod.of_app hA).keep HY7.out (fun h => by have := HLT.out _ h; omega); have r3 : w8.cell? ⟨w4.heap.size + 1, 0, none⟩ = some (.int .i64 (n2 : Int)) := cell_of_row _ _ 0 _ _ _ hy8; have r4 : w8.cell? ⟨w4.heap.size + 1, 1, none⟩ = some (.int .i64 (b2 : Int)) := cell_of_row _ _ 1 _ _ _ hy8; have r5 : w8.cell? ⟨w4.heap.size + 1, 2, none⟩ = some (.int .u32 (x2 : Int)) := cell_of_row _ _ 2 _ _ _ hy8; clear hA hy8))
        go_roundg (gk - 1)
        case measure => omega
        case rel =>
          refine ⟨k + 1, by omega, by go_num, ?_, HB8.out⟩
          have h := HA.out.own
          rw [HLF.out]
          unfold OwnB
          rw [HBF.out]
          exact h
    · obtain rfl : k = l := by omega
      rw [show ts.take k = ts from List.take_of_length_le (by rw [HL.out]; exact Nat.le_refl _)] at HM3
      obtain ⟨x, hx, h0⟩ := HE1.out
      have h9 := HBT1.out wr (256, 0, 0) x HBEL.out hx h0 (by decide) (by decide)
      have hcl := clsB_len HR1.out (c := (256, 0, 0)) (by decide)
      have HSY : Hid (clsB z1 (256, 0, 0) = symB z1 256) := by show _ = _; unfold clsB; simp [bitsOf]
      have HFIN : Hid (M4 ++ toksB z1 z2 ts ++ symB z1 256 = M3 ++ clsB z1 (256, 0, 0)) := by show _ = _; rw [HSY.out, HM3.out]
      obtain ⟨M5, hM5⟩ : ∃ M5, clsB z1 (256, 0, 0) = M5 := ⟨_, rfl⟩
      rw [hM5] at h9 HFIN hcl
      have HR9 : Hid (Calls Tryz.prog 33 #[.slice (some ⟨gl1, 0, none⟩) 273 273, .slice (some ⟨gv1, 0, none⟩) 273 273, .agg #[.int .i64 256, .int .i64 0, .int .u32 0]] wr _) := h9
      have HM3L' := HM3L.out
      have HLF : Hid ((M4 ++ toksB z1 z2 ts ++ symB z1 256).length = m3 + M5.length) := by show _ = _; rw [HFIN.out, List.length_append, HM3L.out]
      have HBF : Hid (byteCells (bitBytes (M4 ++ toksB z1 z2 ts ++ symB z1 256)) = byteCells (bitBytes M3) ++ byteCells (bitBytes M5)) := by show _ = _; rw [HFIN.out, bitBytes_append, byteCells_append]
      clear hx h0 h9 hM5 HM3L'
      go_wp2_with (first
        | (go_at_call 33; refine HR9.out.mono ?_; rintro e w7 ⟨A7, c7, rfl, ho7, hb7⟩; have HO7 := Lib.hid (Cells.of_own ho7); have HROW7 := Lib.hid (own_keep HROW.out (Mod.of_below hb7) (fun _ _ h => h)); have HB7 := Lib.hid (HBEL.out.trans (hb7.mono HBEL.out.size)); clear ho7 hb7)
        | (at_builtin; refine wpList_app w7 byteElem3 rfl (.tmp 60) (.tmp 64) rfl w6.heap.size (.slice A3 m3 c3) m3 (byteCells (bitBytes M3)) rfl HROW7.out w7.heap.size A7 M5.length c7 (byteCells (bitBytes M5)) rfl (by rw [byteCells_length, bitBytes_length, Nat.mul_one]) HO7.out (byteCells_one _) (by unfold maxLen; omega) (by omega) HB7.out.size ?_; intro A8 c8 w8 hA; have HA := Lib.hid hA; clear hA))
      go_ret
      refine ⟨A8, c8, by rw [HLF.out]; rfl, ?_, HWB.out.trans ((HA.out.below HB7.out HB7.out.size (own_base HROW7.out)).mono HWB.out.size)⟩
      rw [HLF.out]
      unfold OwnB
      rw [HBF.out]
      exact own_leP HA.out.own HWB.out.size
end Go.Proofs.YtgbbdgoleiolhaaGreat
