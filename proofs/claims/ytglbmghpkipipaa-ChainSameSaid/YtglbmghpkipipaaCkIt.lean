/- Layer 35: the tokens by chains, as their iterator tells them. -/
import Derived.Test.YtglbmghpkipipaaCkTok
namespace Go.Proofs.Ytglbmghpkipipaa
open Go.RowKit Go.Shelf
attribute [local go_sem] Oper.semAt_some

set_option maxHeartbeats 400000 in
theorem ceach_any (g : Nat) (lv : Int) (w : World) :
    Calls Try.prog 8 #[.pointer (some ⟨g, 0, none⟩), .int .i64 lv] w fun e w' => e = .returned (.func (.func 22) #[] #[.pointer (some ⟨w.heap.size, 0, none⟩), .pointer (some ⟨w.heap.size + 1, 0, none⟩)]) ∧
      (w.alloc (.cells #[.pointer (some ⟨g, 0, none⟩)] 26)).alloc (.cells #[.int .i64 lv] 3) = w' := by
  go_enter Try.func8, Try.ntmps8
  go_wp2
  go_ret
  exact ⟨rfl, rfl⟩
set_option maxRecDepth 100000 in
set_option maxHeartbeats 2000000 in
theorem ceach_seq (n B b1 b2 g g0 : Nat) (A : Option Addr) (l c : Nat) (bs : List UInt8) (lv : Int) (w0 : World) (hl : bs.length = l) (hm : l ≤ 2000) (hb : Bytes w0 n A bs) (hn : n ≤ w0.heap.size) (hB : B < w0.heap.size) (hB1 : b1 ≠ B) (hB2 : b2 ≠ B) (hBg : g ≠ B) (hBg0 : g0 ≠ B) (hown : ownOf B w0 = none) (hch : LCh w0 g g0 A l c bs)
    (h1 : w0.heap[b1]? = some (.cells #[.pointer (some ⟨g, 0, none⟩)] 26)) (h2 : w0.heap[b2]? = some (.cells #[.int .i64 lv] 3)) :
    SeqStopsK Fence.wide 5 Try.prog 22 #[.pointer (some ⟨b1, 0, none⟩), .pointer (some ⟨b2, 0, none⟩)] (fun t : Tk => #[tkV t]) (KpB n B) (fun xs => xs = toks bs lv 0) (fun pre => pre <+: toks bs lv 0) 4001 w0 := by
  intro gy J Jx W hbl hJ hJx hY h0
  have HL := Lib.hid hl
  have h1W := (hbl.block b1 (Array.getElem?_eq_some_iff.1 h1).1).trans h1
  have h2W := (hbl.block b2 (Array.getElem?_eq_some_iff.1 h2).1).trans h2
  have hbW := hb.below (hbl.mono hn) (Nat.le_refl _)
  have hoW : ownOf B W = none := (ownOf_block (hbl.block B hB)).trans hown
  have hBW : B < W.heap.size := Nat.lt_of_lt_of_le hB hbl.size
  have hcW := hch.below hbl
  have hnW : n ≤ W.heap.size := Nat.le_trans hn hbl.size
  have HCW := Lib.hid hcW
  have HSG : Hid (g < W.heap.size ∧ g0 < W.heap.size) := ⟨(Array.getElem?_eq_some_iff.1 hcW.1).1, (Array.getElem?_eq_some_iff.1 hcW.2).1⟩
  have HY := Lib.hid hY
  have H1 := Lib.hid h1W
  have H2 := Lib.hid h2W
  have HBY := Lib.hid hbW
  have HOW := Lib.hid hoW
  have HSB : Hid (b1 < W.heap.size ∧ b2 < W.heap.size) := ⟨(Array.getElem?_eq_some_iff.1 h1W).1, (Array.getElem?_eq_some_iff.1 h2W).1⟩
  clear h1 h2 hb hown hl hY h1W h2W hbW hoW hbl hn hB hch hcW
  refine callsIn_of_wp Try.func22 rfl trivial ?_ rfl
  simp only [Try.ntmps22, List.size_toArray, List.length_cons, List.length_nil, Nat.reduceAdd, Nat.reduceSub, Array.replicate_succ, Array.replicate_zero, List.push_toArray, List.append_toArray, List.nil_append, List.cons_append]
  gi_wp2
  gi_loopw [4] (fun i wr => ∃ (p : Nat) (pre : List Tk), i = .int .i64 (p : Int) ∧ toks bs lv 0 = pre ++ toks bs lv p ∧ p ≤ l + 258 ∧ wr.heap[b1]? = some (.cells #[.pointer (some ⟨g, 0, none⟩)] 26) ∧ wr.heap[b2]? = some (.cells #[.int .i64 lv] 3) ∧
    LCh wr g g0 A l c bs ∧ Bytes wr n A bs ∧ W.heap.size ≤ wr.heap.size ∧ (∀ k, ownOf B wr = some k → W.heap.size ≤ k ∧ k < wr.heap.size) ∧ J pre wr) (fun i _ => l + 259 - (intOf i).toNat)
  case atStart =>
    exact ⟨0, [], rfl, rfl, by omega, H1.out, H2.out, HCW.out, HBY.out, Nat.le_refl _, (fun k hk => by rw [HOW.out] at hk; cases hk), h0⟩
  case round =>
    obtain ⟨p, pre, rfl, htk, hpl, g1, g2, hf, hby, hsz, hown, hJs⟩ := hrel
    have d1 : wr.cell? ⟨b1, 0, none⟩ = some (.pointer (some ⟨g, 0, none⟩)) := cell_of_row wr b1 0 _ _ _ g1
    have d0 : wr.cell? ⟨g, 0, none⟩ = some (.slice A l c) := cell_of_row wr g 0 _ _ _ hf.1
    have d2 : wr.cell? ⟨b2, 0, none⟩ = some (.int .i64 lv) := cell_of_row wr b2 0 _ _ _ g2
    have HT := Lib.hid htk
    clear htk
    by_cases hp : p < l
    · have t0 : decide ((p : Int) < (l : Int)) = true := decide_eq_true (by omega)
      have t0' : decide (p < l) = true := decide_eq_true hp
      obtain ⟨t, ht⟩ : ∃ t, tokAt bs lv p = t := ⟨_, rfl⟩
      have HTS := Lib.hid (toks_step (bs := bs) (lv := lv) (p := p) (by rw [HL.out]; exact hp))
      have hTL := tokAt_le bs lv p
      have HTK := Lib.hid (ctoken_any g g0 A l c bs p lv n wr HL.out hm hp hby (by omega) hf)
      rw [ht] at HTS HTK hTL
      clear ht
      obtain ⟨tb, tn, td⟩ := t
      simp only [tkV] at HTK
      have hts : tsz (tb, tn, td) ≤ 258 := by unfold tsz; simp only at hTL ⊢; omega
      have hts1 := tsz_pos (tb, tn, td)
      have G1 := Lib.hid g1
      have G2 := Lib.hid g2
      have GF := Lib.hid hf
      have GB := Lib.hid hby
      have GO := Lib.hid hown
      clear g1 g2 hf hby hown
      gi_wp2_with (refine ⟨trivial, ?_⟩; gi_at_call 23; refine (callsIn_wide.2 HTK.out).mono ?_; rintro e w5 ⟨rfl, hb5⟩; have HB5 := Lib.hid hb5; clear hb5)
      obtain ⟨W6, hW6⟩ : ∃ W6, w5.alloc (.cells #[.int .u8 (tb.toNat : Int), .int .i64 (tn : Int), .int .i64 (td : Int)] 32) = W6 := ⟨_, rfl⟩
      have HB6 : Hid (Below wr.heap.size wr W6) := by show Below _ _ _; rw [← hW6]; exact HB5.out.alloc HB5.out.size _
      have HZ6 : Hid (W6.heap.size = w5.heap.size + 1) := by show _ = _; rw [← hW6]; simp
      have HX6 : Hid (W6.heap[w5.heap.size]? = some (.cells #[.int .u8 (tb.toNat : Int), .int .i64 (tn : Int), .int .i64 (td : Int)] 32)) := by show _ = _; rw [← hW6]; exact heap_alloc_new w5 _
      have hJ6 : J pre W6 := abidesBelow hJ hJs HB6.out
      have HPX : Hid (pre ++ [(tb, tn, td)] <+: toks bs lv 0) := by
        show _ <+: _
        rw [HT.out, HTS.out]
        exact ⟨toks bs lv (p + tsz (tb, tn, td)), by simp⟩
      have hlen : pre.length < 4001 := by
        have h := toks_len bs lv 0
        have := HL.out
        rw [HT.out, List.length_append] at h
        omega
      obtain ⟨fn, tmps, assign, body, hy, hR⟩ := HY.out pre (tb, tn, td) W6 hJ6 hlen
      simp only [tkV] at hy
      have HR := Lib.hid hR
      have hbr : B < wr.heap.size := by omega
      have HOB : Hid (ownOf B W6 = ownOf B wr) := ownOf_block (HB6.out.block B hbr)
      clear hR hJ6
      rw [hW6, hy]
      clear hW6
      first | gi_upon | gi_wp2
      refine HR.out.mono ?_
      rintro ee W3 (⟨rfl, hJ3, hk3⟩ | ⟨rfl, hJx3⟩)
      · have hno : ∀ k, k < W.heap.size ∨ wr.heap.size ≤ k → ownOf B W6 ≠ some k := fun k hk e => by
          rw [HOB.out] at e
          have := GO.out k e
          omega
        have hsb := HSB.out
        have m1 := hk3.cells b1 _ ((HB6.out.block _ (by omega)).trans G1.out) rfl hB1 (hno _ (by omega))
        have m2 := hk3.cells b2 _ ((HB6.out.block _ (by omega)).trans G2.out) rfl hB2 (hno _ (by omega))
        have hsg := HSG.out
        have m3 := hk3.cells g _ ((HB6.out.block _ (by omega)).trans GF.out.1) rfl hBg (hno _ (by omega))
        have m4 := hk3.cells g0 _ ((HB6.out.block _ (by omega)).trans GF.out.2) rfl hBg0 (hno _ (by omega))
        have hx5 := HB5.out.size
        have m5 := hk3.cells w5.heap.size _ HX6.out rfl (by omega) (hno _ (by omega))
        have MB := Lib.hid ((GB.out.below (HB6.out.mono (by omega)) (Nat.le_refl _)).below hk3.low (Nat.le_refl _))
        have MO : Hid (∀ k, ownOf B W3 = some k → W.heap.size ≤ k ∧ k < W3.heap.size) := fun k hk => by
          have hz6 := HZ6.out
          have hs3 := hk3.size
          obtain ⟨o1, o2⟩ := hk3.own k hk
          rw [HOB.out] at o1 o2
          rcases o1 with o1 | o1
          · have := GO.out k o1; omega
          · rcases o2 with o2 | o2
            · have := GO.out k o2; omega
            · omega
        have MZ : Hid (W.heap.size ≤ W3.heap.size ∧ B < W3.heap.size ∧ b1 < W3.heap.size ∧ b2 < W3.heap.size) := by
          have hz6 := HZ6.out
          have hs3 := hk3.size
          show _ ∧ _ ∧ _ ∧ _
          omega
        have k0' : W3.cell? ⟨w5.heap.size, 0, none⟩ = some (.int .u8 (tb.toNat : Int)) := cell_of_row W3 _ 0 _ _ _ m5
        have k1' : W3.cell? ⟨w5.heap.size, 1, none⟩ = some (.int .i64 (tn : Int)) := cell_of_row W3 _ 1 _ _ _ m5
        have k2' : W3.cell? ⟨w5.heap.size, 2, none⟩ = some (.int .i64 (td : Int)) := cell_of_row W3 _ 2 _ _ _ m5
        obtain ⟨sz, hsz⟩ : ∃ sz, tsz (tb, tn, td) = sz := ⟨_, rfl⟩
        rw [hsz] at HTS
        rw [hsz] at hts hts1
        have hszd : sz = max tn 1 := hsz.symm
        have hm1 : (if (tn : Int) < 1 then (1 : Int) else (tn : Int)) = sz := by split <;> omega
        have hm2 : (if tn < 1 then (1 : Int) else (tn : Int)) = sz := by split <;> omega
        have hm3 : (if (1 : Int) < (tn : Int) then (tn : Int) else 1) = sz := by split <;> omega
        have hm4 : (if 1 < tn then (tn : Int) else 1) = sz := by split <;> omega
        have hszd' : (max (tn : Int) 1) = (sz : Int) := by omega
        clear hszd
        have M1 := Lib.hid m1
        have M2 := Lib.hid m2
        have M3 := Lib.hid m3
        have M4 := Lib.hid m4
        have HJ3 := Lib.hid hJ3
        clear m1 m2 m3 m4 m5 hJ3 hk3 hno hsz
        gi_wp2
        refine ⟨⟨p + sz, pre ++ [(tb, tn, td)], by go_num, by rw [HT.out, HTS.out]; simp, by omega, M1.out, M2.out, ⟨M3.out, M4.out⟩, MB.out, MZ.out.1, MO.out, HJ3.out⟩, ?_⟩
        simp [intOf]
        omega
      · gi_wp2
        refine bodyPost_ret (results_none rfl _ _ _) rfl ?_
        exact ⟨⟨_, rfl⟩, .inr ⟨pre ++ [(tb, tn, td)], HPX.out, hJx3⟩⟩
    · have t0' : decide (p < l) = false := decide_eq_false hp
      have HE := Lib.hid (toks_end (bs := bs) (lv := lv) (p := p) (by rw [HL.out]; omega))
      have t0 : decide ((p : Int) < (l : Int)) = false := decide_eq_false (by omega)
      clear g1 g2 hf hby hown
      gi_wp2
      go_end0
      exact ⟨⟨_, rfl⟩, .inl ⟨pre, by rw [HT.out, HE.out, List.append_nil], hJs⟩⟩
end Go.Proofs.Ytglbmghpkipipaa
