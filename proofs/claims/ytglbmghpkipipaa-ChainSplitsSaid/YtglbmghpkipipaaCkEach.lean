/- Layer 35: the tokens by chains, told to the law's own function. -/
import Derived.Test.YtglbmghpkipipaaCkCl
import Derived.Test.YtglbmghpkipipaaCkTok
namespace Go.Proofs.Ytglbmghpkipipaa
open Go.RowKit Go.Shelf

/-- How many are told. -/
def wantN (m : Nat) (till : Int) : Int := if 0 < till ∧ till < (m : Int) then till else (m : Int)
set_option maxRecDepth 100000 in
set_option maxHeartbeats 4000000 in
theorem ceach_cl (b1 b2 g g0 q10 q9 q7 q5 B2 : Nat) (A Al : Option Addr) (l c cl n : Nat) (bs : List UInt8) (lv till : Int) (W : World) (hl : bs.length = l) (hm : l ≤ 2000) (hb : Bytes W n A bs) (hn : n ≤ q9) (hn2 : q9 < W.heap.size) (hB2 : B2 ≤ q9)
    (hch : LCh W g g0 A l c bs) (hgq : g ≠ q9) (hg0q : g0 ≠ q9) (h1 : W.heap[b1]? = some (.cells #[.pointer (some ⟨g, 0, none⟩)] 26)) (h2 : W.heap[b2]? = some (.cells #[.int .i64 lv] 3)) (hne2 : b2 ≠ q9) (h59 : ¬ q5 = q9)
    (hc : Cells W B2 Al ((toks bs lv 0).map tkC).flatten)
    (h10 : W.heap[q10]? = some (.cells #[.bool true] 4)) (h9 : W.heap[q9]? = some (.cells #[.int .i64 0] 3)) (h7 : W.heap[q7]? = some (.cells #[.slice Al (toks bs lv 0).length cl] 24)) (h5 : W.heap[q5]? = some (.cells #[.int .i64 till] 3)) :
    Calls Try.prog 22 #[.func (.func 9) #[] #[.pointer (some ⟨q10, 0, none⟩), .pointer (some ⟨q9, 0, none⟩), .pointer (some ⟨q7, 0, none⟩), .pointer (some ⟨q5, 0, none⟩)], .pointer (some ⟨b1, 0, none⟩), .pointer (some ⟨b2, 0, none⟩)] W
      fun e W' => (∃ v, e = .returned v) ∧ W'.heap[q9]? = some (.cells #[.int .i64 (wantN (toks bs lv 0).length till)] 3) ∧ Mod (oneB q9) W W' := by
  have hfew := toks_few bs lv
  obtain ⟨L, hL⟩ : ∃ L, toks bs lv 0 = L := ⟨_, rfl⟩
  rw [hL] at hc h7 hfew ⊢
  have HL := Lib.hid hl
  have HLL := Lib.hid hL
  have hne1 : b1 ≠ q9 := fun e => by rw [e, h9] at h1; cases h1
  have hne10 : q10 ≠ q9 := fun e => by rw [e, h9] at h10; cases h10
  have hne7 : q7 ≠ q9 := fun e => by rw [e, h9] at h7; cases h7
  have HCH := Lib.hid hch
  have H1 := Lib.hid h1
  have H2 := Lib.hid h2
  have H10 := Lib.hid h10
  have H9 := Lib.hid h9
  have H7 := Lib.hid h7
  have H5 := Lib.hid h5
  have HBY := Lib.hid hb
  have HC := Lib.hid hc
  have HLT : Hid (b1 < W.heap.size ∧ b2 < W.heap.size ∧ q10 < W.heap.size ∧ q7 < W.heap.size ∧ q5 < W.heap.size) := ⟨(Array.getElem?_eq_some_iff.1 h1).1, (Array.getElem?_eq_some_iff.1 h2).1, (Array.getElem?_eq_some_iff.1 h10).1, (Array.getElem?_eq_some_iff.1 h7).1, (Array.getElem?_eq_some_iff.1 h5).1⟩
  clear h1 h2 h10 h9 h7 h5 hb hc hL hl hch
  go_enter Try.func22, Try.ntmps22
  go_wp2
  go_loopg [4] (l + 259) (fun gk i wr => ∃ (p : Nat) (pre : List Tk), p + gk = l + 259 ∧ i = .int .i64 (p : Int) ∧ L = pre ++ toks bs lv p ∧ p ≤ l + 258 ∧ Mod (oneB q9) W wr ∧ wr.heap[q9]? = some (.cells #[.int .i64 (pre.length : Int)] 3) ∧
    LCh wr g g0 A l c bs ∧ W.heap.size ≤ wr.heap.size ∧ (0 < till → (pre.length : Int) < till))
  case atStart =>
    exact ⟨0, [], by omega, rfl, HLL.out.symm, by omega, Mod.refl _ _, H9.out, HCH.out, Nat.le_refl _, fun h => by simpa using h⟩
  case round =>
    obtain ⟨p, pre, hpg, rfl, htk, hpl, hmod, g9, hf, hsz, htill⟩ := hrel
    have hlt := HLT.out
    have HT := Lib.hid htk
    have HM := Lib.hid hmod
    have G9 := Lib.hid g9
    have GF := Lib.hid hf
    have HTI := Lib.hid htill
    have d0 : wr.cell? ⟨g, 0, none⟩ = some (.slice A l c) := cell_of_row wr g 0 _ _ _ hf.1
    have d1 : wr.cell? ⟨b1, 0, none⟩ = some (.pointer (some ⟨g, 0, none⟩)) := cell_of_row wr b1 0 _ _ _ (hmod.keep H1.out hne1)
    have d2 : wr.cell? ⟨b2, 0, none⟩ = some (.int .i64 lv) := cell_of_row wr b2 0 _ _ _ (hmod.keep H2.out hne2)
    have hby : Bytes wr n A bs := HBY.out.mod hmod (by omega) (fun k hk => by unfold oneB at hk; omega)
    clear htk hmod g9 hf htill
    by_cases hp : p < l
    · have t0 : decide ((p : Int) < (l : Int)) = true := decide_eq_true (by omega)
      obtain ⟨t, ht⟩ : ∃ t, tokAt bs lv p = t := ⟨_, rfl⟩
      have HTS := Lib.hid (toks_step (bs := bs) (lv := lv) (p := p) (by rw [HL.out]; exact hp))
      have hTL := tokAt_le bs lv p
      have HTK := Lib.hid (ctoken_any g g0 A l c bs p lv n wr HL.out hm hp hby (by omega) GF.out)
      rw [ht] at HTS HTK hTL
      clear ht
      obtain ⟨tb, tn, td⟩ := t
      have hts : tsz (tb, tn, td) ≤ 258 := by unfold tsz; simp only at hTL ⊢; omega
      have hts1 := tsz_pos (tb, tn, td)
      have hLk : L[pre.length]? = some (tb, tn, td) := by rw [HT.out, HTS.out]; simp
      have HCL : Hid (∀ Z, Below wr.heap.size wr Z → Calls Try.prog 9 #[tkV (tb, tn, td), .pointer (some ⟨q10, 0, none⟩), .pointer (some ⟨q9, 0, none⟩), .pointer (some ⟨q7, 0, none⟩), .pointer (some ⟨q5, 0, none⟩)] Z
          fun e W' => e = .returned (.bool (decide (¬ ((pre.length + 1 : Nat) : Int) = till))) ∧ W'.heap[q9]? = some (.cells #[.int .i64 ((pre.length + 1 : Nat) : Int)] 3) ∧ Mod (oneB q9) Z W') := fun Z hZ => by
        have hzs := hZ.size
        refine ccl_any q10 q9 q7 q5 Al cl pre.length B2 L (tb, tn, td) till Z hLk (by have := HL.out; omega) ?_ h59 ((hZ.block _ (by omega)).trans (HM.out.keep H10.out hne10)) ((hZ.block _ (by omega)).trans G9.out) ((hZ.block _ (by omega)).trans (HM.out.keep H7.out hne7)) ((hZ.block _ (by omega)).trans (HM.out.keep H5.out h59))
        exact (HC.out.mod HM.out (by omega) (fun k hk => by unfold oneB at hk; omega)).below (hZ.mono (by omega)) (Nat.le_refl _)
      obtain ⟨sz, hsz2⟩ : ∃ sz, tsz (tb, tn, td) = sz := ⟨_, rfl⟩
      rw [hsz2] at HTS hts hts1
      simp only [tkV] at HTK HCL
      have hszd : sz = max tn 1 := hsz2.symm
      have hm1 : (if (tn : Int) < 1 then (1 : Int) else (tn : Int)) = sz := by split <;> omega
      have hm2 : (if tn < 1 then (1 : Int) else (tn : Int)) = sz := by split <;> omega
      have hm3 : (if (1 : Int) < (tn : Int) then (tn : Int) else 1) = sz := by split <;> omega
      have hm4 : (if 1 < tn then (tn : Int) else 1) = sz := by split <;> omega
      have hszd' : (max (tn : Int) 1) = (sz : Int) := by omega
      clear hby hsz2 hLk hTL hszd
      have hpl2 : pre.length < L.length := (List.getElem?_eq_some_iff.1 (show L[pre.length]? = some (tb, tn, td) by rw [HT.out, HTS.out]; simp)).1
      have HM67 : Hid (∀ W6 w7 : World, Below wr.heap.size wr W6 → Mod (oneB q9) W6 w7 → Mod (oneB q9) W w7) := fun W6 w7 hB hM => (HM.out.trans (Mod.of_below hB) (fun k h => h.elim)).trans hM (fun k h => .inl h)
      by_cases heq : ((pre.length + 1 : Nat) : Int) = till
      · have tb1 : decide (¬ ((pre.length + 1 : Nat) : Int) = till) = false := by simp [heq]
        rw [tb1] at HCL
        have HWN : Hid (wantN L.length till = ((pre.length + 1 : Nat) : Int)) := by
          show _ = _
          unfold wantN
          split <;> omega
        clear tb1 heq
        go_wp2_with (first
          | (go_at_call 23; refine HTK.out.mono ?_; rintro e w5 ⟨rfl, hb5⟩; obtain ⟨W6, hW6⟩ : ∃ W6, w5.alloc (.cells #[.int .u8 (tb.toNat : Int), .int .i64 (tn : Int), .int .i64 (td : Int)] 32) = W6 := ⟨_, rfl⟩; have hx6 : W6.heap[w5.heap.size]? = some (.cells #[.int .u8 (tb.toNat : Int), .int .i64 (tn : Int), .int .i64 (td : Int)] 32) := (by rw [← hW6]; exact heap_alloc_new w5 _); have hb6 : Below wr.heap.size wr W6 := (by rw [← hW6]; exact hb5.alloc hb5.size _); have z0 := cell_of_row W6 w5.heap.size 0 _ _ _ hx6; have z1 := cell_of_row W6 w5.heap.size 1 _ _ _ hx6; have z2 := cell_of_row W6 w5.heap.size 2 _ _ _ hx6; have HX6 := Lib.hid hx6; have HB6 := Lib.hid hb6; have HS5 := Lib.hid hb5.size; clear hb5 hx6 hb6)
          | (go_at_call 9; refine (HCL.out _ HB6.out).mono ?_; rintro e w7 ⟨rfl, h97, hm7⟩; have hx7 := hm7.keep HX6.out (fun e => by have := HS5.out; have : w5.heap.size = q9 := e; omega); have k0 := cell_of_row w7 w5.heap.size 0 _ _ _ hx7; have k1 := cell_of_row w7 w5.heap.size 1 _ _ _ hx7; have k2 := cell_of_row w7 w5.heap.size 2 _ _ _ hx7; have H97 := Lib.hid h97; have HM7 := Lib.hid hm7; clear h97 hm7 hx7))
        refine bodyPost_ret (results_none rfl _ _ _) rfl ?_
        exact ⟨⟨_, rfl⟩, by rw [HWN.out]; exact H97.out, HM67.out _ _ HB6.out HM7.out⟩
      · have tb1 : decide (¬ ((pre.length + 1 : Nat) : Int) = till) = true := decide_eq_true heq
        rw [tb1] at HCL
        have HTI2 : Hid (0 < till → ((pre.length + 1 : Nat) : Int) < till) := fun h => by have := HTI.out h; omega
        clear tb1 heq
        go_wp2_with (first
          | (go_at_call 23; refine HTK.out.mono ?_; rintro e w5 ⟨rfl, hb5⟩; obtain ⟨W6, hW6⟩ : ∃ W6, w5.alloc (.cells #[.int .u8 (tb.toNat : Int), .int .i64 (tn : Int), .int .i64 (td : Int)] 32) = W6 := ⟨_, rfl⟩; have hx6 : W6.heap[w5.heap.size]? = some (.cells #[.int .u8 (tb.toNat : Int), .int .i64 (tn : Int), .int .i64 (td : Int)] 32) := (by rw [← hW6]; exact heap_alloc_new w5 _); have hb6 : Below wr.heap.size wr W6 := (by rw [← hW6]; exact hb5.alloc hb5.size _); have z0 := cell_of_row W6 w5.heap.size 0 _ _ _ hx6; have z1 := cell_of_row W6 w5.heap.size 1 _ _ _ hx6; have z2 := cell_of_row W6 w5.heap.size 2 _ _ _ hx6; have HX6 := Lib.hid hx6; have HB6 := Lib.hid hb6; have HS5 := Lib.hid hb5.size; clear hb5 hx6 hb6)
          | (go_at_call 9; refine (HCL.out _ HB6.out).mono ?_; rintro e w7 ⟨rfl, h97, hm7⟩; have hx7 := hm7.keep HX6.out (fun e => by have := HS5.out; have : w5.heap.size = q9 := e; omega); have k0 := cell_of_row w7 w5.heap.size 0 _ _ _ hx7; have k1 := cell_of_row w7 w5.heap.size 1 _ _ _ hx7; have k2 := cell_of_row w7 w5.heap.size 2 _ _ _ hx7; have H97 := Lib.hid h97; have HM7 := Lib.hid hm7; clear h97 hm7 hx7))
        go_roundg (gk - sz)
        case measure => omega
        case rel =>
          have hs5 := HS5.out
          have hb6 := HB6.out.size
          have hs7 := HM7.out.size
          have hgl := (Array.getElem?_eq_some_iff.1 GF.out.1).1
          have hg0l := (Array.getElem?_eq_some_iff.1 GF.out.2).1
          have m3 := HM7.out.keep ((HB6.out.block _ hgl).trans GF.out.1) hgq
          have m4 := HM7.out.keep ((HB6.out.block _ hg0l).trans GF.out.2) hg0q
          have hq97 := H97.out
          refine ⟨p + sz, pre ++ [(tb, tn, td)], by omega, by go_num, by rw [HT.out, HTS.out]; simp, by omega, HM67.out _ _ HB6.out HM7.out, ?_, ⟨m3, m4⟩, by omega, ?_⟩
          · rw [List.length_append]
            exact hq97
          · rw [List.length_append]
            exact HTI2.out
    · have t0 : decide ((p : Int) < (l : Int)) = false := decide_eq_false (by omega)
      have HE := Lib.hid (toks_end (bs := bs) (lv := lv) (p := p) (by rw [HL.out]; omega))
      have HPE : Hid (L = pre) := by show _ = _; rw [HT.out, HE.out, List.append_nil]
      have HWN : Hid (wantN L.length till = (pre.length : Int)) := by
        show _ = _
        have h1 := HPE.out
        have h2 := HTI.out
        rw [h1]
        unfold wantN
        split
        · rename_i h; have := h2 h.1; omega
        · rfl
      clear hby
      go_wp2
      go_end0
      exact ⟨⟨_, rfl⟩, by rw [HWN.out]; exact G9.out, HM.out⟩
end Go.Proofs.Ytglbmghpkipipaa
