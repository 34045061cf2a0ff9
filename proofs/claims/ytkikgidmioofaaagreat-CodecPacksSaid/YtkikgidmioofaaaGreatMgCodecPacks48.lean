/- Layer 13: tokens of bytes in memory; a fresh writer. -/
import Derived.Test.YtkikgidmioofaaaGreatMgCodecPacks46
import Derived.Test.YtkikgidmioofaaaGreatMgCodecPacks31
import Derived.Test.YtkikgidmioofaaaGreatMgCodecPacks47
import Derived.Test.YtkikgidmioofaaaGreatMgCodecPacksSBytesIn
namespace Go.Proofs.YtkikgidmioofaaaGreat
open Go.RowKit BitsP SymP

theorem tkAt_low {w : World} {A : Option Addr} {k : Nat} {y l d : Int} (h : TkAt w A k y l d) : ∀ a, A = some a → a.block < w.heap.size := fun a ha => by
  obtain ⟨b, o, h1, h2, _⟩ := h
  rw [h1] at ha
  cases ha
  exact h2
theorem toksOf_low {w : World} {A : Option Addr} {l : Nat} {ts : List Tk} (h : ToksOf w A l ts) (hl : ts.length = l) (h0 : 0 < l) : ∀ a, A = some a → a.block < w.heap.size := fun a ha => by
  obtain ⟨t, ht⟩ : ∃ t, ts[0]? = some t := ⟨_, List.getElem?_eq_getElem (by omega)⟩
  exact tkAt_low (h.2.1 0 t ht) a ha
theorem tk_cellsB (ts : List Tk) : (ts.map tkC).flatten = ts.flatMap tcC := by
  rw [List.flatMap_def]
  rfl
theorem toksOf_tk {w : World} {A : Option Addr} {ts : List Tk} (h : ∀ t ∈ ts, okT t) (hc : Cells w w.heap.size A (ts.map tkC).flatten) : ToksOf w A ts.length ts := by
  refine ⟨h, fun k t ht => ?_, .inl rfl⟩
  have c0 := code_at (tkC_len ts) (j := 0) ht rfl
  have c1 := code_at (tkC_len ts) (j := 1) ht rfl
  have c2 := code_at (tkC_len ts) (j := 2) ht rfl
  obtain ⟨b, o, h1, h2, h3⟩ := hc (by have := (List.getElem?_eq_some_iff.1 c0).1; omega)
  exact ⟨b, o, h1, h2, h3 _ _ c0, by have h4 := h3 _ _ c1; rw [← Nat.add_assoc] at h4; exact h4, by have h4 := h3 _ _ c2; rw [← Nat.add_assoc] at h4; exact h4⟩
theorem put_fresh2 {A : Option Addr} {l c : Nat} {ts : List Tk} {w : World} (hm : l ≤ 65536) (h : ToksOf w A l ts) (hl : ts.length = l) :
    Calls Tryz.prog 19 #[.pointer (some ⟨w.heap.size, 0, none⟩), .slice A l c] (w.alloc (.cells zeroWr 43)) fun e w' => e = .returned (.int .i64 0) ∧ ∃ S', WrS w' w.heap.size w.heap.size S' (blkB ts) ∧ Below w.heap.size w w' ∧ ∀ k, S' k → w.heap.size ≤ k := by
  have hb : Below w.heap.size w (w.alloc (.cells zeroWr 43)) := (Below.refl _ w).alloc (Nat.le_refl _) _
  refine (blkput_any A l c w.heap.size w.heap.size ts (oneB w.heap.size) [] (w.alloc (.cells zeroWr 43)) hl hm h.1 (h.below hb).2.1 (fun h0 a ha hk => by
    have h2 := toksOf_low h hl h0 a ha
    have h3 : a.block = w.heap.size := hk
    omega) (WrS.zero _ (heap_alloc_new w _)) (by simp) (by simp)).mono ?_
  rintro e w' ⟨h1, S', h2, h3, h4⟩
  refine ⟨h1, S', by simpa using h2, h3.below hb (by simp) (fun k hk => by cases hk; exact Nat.le_refl _), fun k hk => ?_⟩
  rcases h4 k hk with h5 | h5
  · have h6 : k = w.heap.size := h5
    omega
  · simp at h5; omega
end Go.Proofs.YtkikgidmioofaaaGreat
/- Layer 14: a payload is made. -/
namespace Go.Proofs.YtkikgidmioofaaaGreat
open Go.RowKit BitsP SymP
attribute [local go_sem ↓] Go.wp_at_zero Go.wp_at_succ

/-- What a payload is packed to, and what it is: method and bytes. -/
def pkB (lv : Int) (bs : List UInt8) : List UInt8 := pack (blkB (toks bs lv 0))
def pkM (lv : Int) (bs : List UInt8) : Int × List UInt8 := if lv < 0 then (0, bs) else if (pkB lv bs).length < bs.length then (1, pkB lv bs) else (0, bs)
theorem blkB_pos (ts : List Tk) : 1 ≤ (blkB ts).length := by
  rw [blkB, List.length_append, List.length_append, List.length_append, tabP, List.length_append, List.length_append, bitsOf_length]
  omega
theorem pack_pos {L : List Bool} (h : 1 ≤ L.length) : 1 ≤ (pack L).length := by
  have h1 := congrArg List.length (pack_unpack L)
  rw [unpack_length, List.length_append] at h1
  omega
theorem pkM_7 : pkM 3 [7] = (0, [7]) := by
  have h := pack_pos (blkB_pos (toks [7] 3 0))
  unfold pkM
  rw [if_neg (by decide), if_neg (by show ¬ (pkB 3 [7]).length < 1; unfold pkB; omega)]
theorem tkAt_wr {w : World} {A : Option Addr} {k q : Nat} {y l d : Int} (h : TkAt w A k y l d) (hq : w.heap[q]? = some (.cells zeroWr 43 (0, 0))) : ∀ a, A = some a → a.block ≠ q := fun a ha he => by
  obtain ⟨b, o, h1, _, h3, _⟩ := h
  rw [h1] at ha
  cases ha
  have hb : b = q := he
  subst hb
  rw [show w.cell? ⟨b, o + k * 3, none⟩ = zeroWr[o + k * 3]? from cell_of_row w b (o + k * 3) _ _ _ hq] at h3
  generalize o + k * 3 = m at h3
  match m, h3 with
  | 0, h3 => simp [zeroWr] at h3
  | 1, h3 => simp [zeroWr] at h3
  | 2, h3 => simp [zeroWr] at h3
  | m + 3, h3 => simp [zeroWr] at h3
theorem pack14_big (A : Option Addr) (l c : Nat) (lv : Int) (w : World) (h : 65536 < l) (hm : l ≤ 9223372036854775807) :
    Calls Tryz.prog 9 #[.slice A l c, .int .i64 lv] w fun e w' => e = .returned (.tuple #[.int .i64 0, .slice none 0 0, .int .i64 5]) ∧ w = w' := by
  go_enter Tryz.func9, Tryz.ntmps9
  go_wp2
  exact bodyPost_ret (results_tmp3 rfl _ _ _) rfl ⟨rfl, rfl⟩
set_option maxRecDepth 100000 in
set_option maxHeartbeats 1000000 in
theorem pack14_any (A : Option Addr) (l c : Nat) (bs : List UInt8) (lv : Int) (w : World) (hl : bs.length = l) (hm : l ≤ 4000) (hcap : l ≤ c) (hb : Bytes w w.heap.size A bs) :
    Calls Tryz.prog 9 #[.slice A l c, .int .i64 lv] w fun e w' => ∃ A' c', e = .returned (.tuple #[.int .i64 (pkM lv bs).1, .slice A' (pkM lv bs).2.length c', .int .i64 0]) ∧ OwnB w' w.heap.size 5 (.slice A' (pkM lv bs).2.length c') (pkM lv bs).2.length (pkM lv bs).2 ∧ Below w.heap.size w w' := by
  have t0 : decide ((65536 : Int) < (l : Int)) = false := decide_eq_false (by omega)
  have HLL := Lib.hid hl
  by_cases hlv : lv < 0
  · have HE : Hid (pkM lv bs = (0, bs)) := by show _ = _; unfold pkM; rw [if_pos hlv]
    have HC := Lib.hid (clone_any A l c w.heap.size bs w hl (by omega) (Nat.le_refl _) hb)
    have t1 : decide (0 ≤ lv) = false := decide_eq_false (by omega)
    rw [HE.out]
    dsimp only
    rw [hl]
    clear hl hb hlv
    go_enter Tryz.func9, Tryz.ntmps9
    go_wp2_with (go_at_call 22; refine HC.out.mono ?_; rintro e w2 ⟨A2, c2, rfl, hown2, hb2⟩; have HO2 := Lib.hid hown2; have HB2 := Lib.hid hb2; clear hown2 hb2)
    exact bodyPost_ret (results_tmp3 rfl _ _ _) rfl ⟨A2, c2, rfl, HO2.out, HB2.out⟩
  · have t1 : decide (0 ≤ lv) = true := decide_eq_true (by omega)
    have hok := toks_okT bs lv bs.length 0 (by omega)
    have hfew := toks_few bs lv
    have hb1 : Below w.heap.size w (w.alloc (.cells zeroWr 43)) := (Below.refl _ w).alloc (Nat.le_refl _) _
    have HB1 := Lib.hid hb1
    have HSP := Lib.hid (split_any A l c bs lv (w.alloc (.cells zeroWr 43)) hl hm hcap ((hb.below hb1 (Nat.le_refl _)).more hb1.size))
    have HWZ : Hid (∀ W, Below (w.alloc (.cells zeroWr 43)).heap.size (w.alloc (.cells zeroWr 43)) W → W.heap[w.heap.size]? = some (.cells zeroWr 43 (0, 0))) := fun W hW => (hW.block _ (by simp)).trans (heap_alloc_new w _)
    obtain ⟨ts, hts⟩ : ∃ ts, toks bs lv 0 = ts := ⟨_, rfl⟩
    have HPE : Hid (pkB lv bs = pack (blkB ts)) := by show _ = _; rw [pkB, hts]
    rw [hts] at hok hfew HSP
    have hfewB := blkB_few hok
    have HPT : Hid (∀ (W : World) (A2 : Option Addr) (c2 : Nat), Cells W W.heap.size A2 (ts.map tkC).flatten → Below (w.alloc (.cells zeroWr 43)).heap.size (w.alloc (.cells zeroWr 43)) W → _) := fun W A2 c2 hc hW =>
      blkput_any A2 ts.length c2 w.heap.size w.heap.size ts (oneB w.heap.size) [] W rfl (by omega) hok (toksOf_tk hok hc).2.1 (fun h0 a ha hk => by
        obtain ⟨t, ht⟩ : ∃ t, ts[0]? = some t := ⟨_, List.getElem?_eq_getElem h0⟩
        exact tkAt_wr ((toksOf_tk hok hc).2.1 0 t ht) (HWZ.out W hW) a ha hk) (WrS.zero _ (HWZ.out W hW)) (by simp) (by have := hW.size; simp at this; omega)
    have hPL : (pack (blkB ts)).length ≤ (blkB ts).length := pack_length _
    obtain ⟨P, hP⟩ : ∃ P, pack (blkB ts) = P := ⟨_, rfl⟩
    have HPP := Lib.hid hP
    rw [hP] at HPE hPL
    have hpl : P.length ≤ 500000 := by omega
    have hbl : (blkB ts).length ≤ 500000 := by omega
    have HBLL := Lib.hid hbl
    obtain ⟨k, hk⟩ : ∃ k, ts.length = k := ⟨_, rfl⟩
    rw [hk] at HSP HPT
    obtain ⟨pl, hpl2⟩ : ∃ pl, P.length = pl := ⟨_, rfl⟩
    have HPL := Lib.hid hpl2
    rw [hpl2] at hpl
    have HC : Hid (∀ W, Below w.heap.size w W → _) := fun W hW => clone_any A l c W.heap.size bs W hl (by omega) (Nat.le_refl _) ((hb.below hW (Nat.le_refl _)).more hW.size)
    unfold zeroWr at HSP HPT HB1
    by_cases hlt : pl < l
    · have HE : Hid (pkM lv bs = (1, P)) := by show _ = _; unfold pkM; rw [if_neg hlv, HPE.out, if_pos (by rw [HPL.out, HLL.out]; exact hlt)]
      rw [HE.out]
      dsimp only
      rw [HPL.out]
      have t2 : decide ((pl : Int) < (l : Int)) = true := decide_eq_true (by omega)
      have t2n : decide (pl < l) = true := decide_eq_true hlt
      clear hl hb hlv hok hfew hb1 hts hfewB hP hk hpl2 hlt hPL hbl
      go_enter Tryz.func9, Tryz.ntmps9
      go_wp2_with (first
        | (go_at_call 20; refine HSP.out.mono ?_; rintro e w2 ⟨A2, c2, rfl, hc2, hb2⟩; have HB2 := Lib.hid (HB1.out.trans (hb2.mono HB1.out.size)); have HPU := Lib.hid (HPT.out w2 A2 c2 hc2 hb2); rw [List.nil_append] at HPU; clear hc2 hb2)
        | (go_at_call 19; refine HPU.out.mono ?_; rintro e w3 ⟨rfl, S3, hw3, hm3, hs3⟩; have HW3 := Lib.hid hw3; have HB3 := Lib.hid (hm3.below HB2.out HB2.out.size (fun k hk => by cases hk; exact Nat.le_refl _)); clear hw3 hm3 hs3)
        | (go_at_call 21; refine (wbytes_any w.heap.size w.heap.size S3 (blkB ts) w3 HW3.out (by have := HBLL.out; omega)).mono ?_; rintro e w5 ⟨A5, c5, rfl, hown, hbel⟩; rw [HPP.out, HPL.out] at hown; rw [HPP.out, HPL.out]; have HO5 := Lib.hid (own_leP hown HB3.out.size); have HB5 := Lib.hid (HB3.out.trans (hbel.mono HB3.out.size)); clear hown hbel))
      exact bodyPost_ret (results_tmp3 rfl _ _ _) rfl ⟨A5, c5, rfl, HO5.out, HB5.out⟩
    · have HE : Hid (pkM lv bs = (0, bs)) := by show _ = _; unfold pkM; rw [if_neg hlv, HPE.out, if_neg (by rw [HPL.out, HLL.out]; exact hlt)]
      rw [HE.out]
      dsimp only
      rw [HLL.out]
      have t2 : decide ((pl : Int) < (l : Int)) = false := decide_eq_false (by omega)
      have t2n : decide (pl < l) = false := decide_eq_false hlt
      clear hl hb hlv hok hfew hb1 hts hfewB hP hk hpl2 hlt hPL hbl
      go_enter Tryz.func9, Tryz.ntmps9
      go_wp2_with (first
        | (go_at_call 20; refine HSP.out.mono ?_; rintro e w2 ⟨A2, c2, rfl, hc2, hb2⟩; have HB2 := Lib.hid (HB1.out.trans (hb2.mono HB1.out.size)); have HPU := Lib.hid (HPT.out w2 A2 c2 hc2 hb2); rw [List.nil_append] at HPU; clear hc2 hb2)
        | (go_at_call 19; refine HPU.out.mono ?_; rintro e w3 ⟨rfl, S3, hw3, hm3, hs3⟩; have HW3 := Lib.hid hw3; have HB3 := Lib.hid (hm3.below HB2.out HB2.out.size (fun k hk => by cases hk; exact Nat.le_refl _)); clear hw3 hm3 hs3)
        | (go_at_call 21; refine (wbytes_any w.heap.size w.heap.size S3 (blkB ts) w3 HW3.out (by have := HBLL.out; omega)).mono ?_; rintro e w5 ⟨A5, c5, rfl, hown, hbel⟩; rw [HPP.out, HPL.out]; have HB5 := Lib.hid (HB3.out.trans (hbel.mono HB3.out.size)); clear hown hbel)
        | (go_at_call 22; refine (HC.out _ HB5.out).mono ?_; rintro e w6 ⟨A6, c6, rfl, hown6, hb6⟩; have HO6 := Lib.hid (own_leP hown6 HB5.out.size); have HB6 := Lib.hid (HB5.out.trans (hb6.mono HB5.out.size)); clear hown6 hb6))
      exact bodyPost_ret (results_tmp3 rfl _ _ _) rfl ⟨A6, c6, rfl, HO6.out, HB6.out⟩
end Go.Proofs.YtkikgidmioofaaaGreat
/- Layer 14: a payload is made: the document's answer; the law. -/
namespace Go.Proofs.YtkikgidmioofaaaGreat
open Go.RowKit BitsP SymP
attribute [local go_sem ↓] Go.wp_at_zero Go.wp_at_succ

theorem byteInfo14 : (Tryz.prog.info? 5).map (fun i => (i.zero, i.size, i.bytes)) = some (some (.int .u8 0), 1, 1) := by kernel_rfl
theorem make_bytes14 (n : Nat) (hn : n ≤ 281474976710656) (W : World) :
    (Instr.makeSlice 22 (.int .i64 (n : Int)) (.int .i64 (n : Int))).run Tryz.prog W = .ok (.slice (some ⟨W.heap.size, 0, none⟩) n n) (W.alloc (.cells (madeCells #[.int .u8 0] n) 5)) := by
  obtain ⟨i0, hi, hz0, hz1, hz2⟩ := info_parts byteInfo14
  have h := run_make (P := Tryz.prog) W 22 5 i0 (.int .u8 0) Tryz.underlying22 hi hz0 .i64 .i64 n n (by omega) (Int.le_refl _) (by rw [hz2]; omega) (by omega)
  simp only [Int.toNat_natCast, hz1, Nat.mul_one] at h
  exact h
set_option maxRecDepth 100000 in
set_option maxHeartbeats 1000000 in
theorem rpack14_any (A : Option Addr) (l c : Nat) (bs : List UInt8) (lv : Int) (w : World) (hl : bs.length = l) (hm : l ≤ 4000) (hb : Bytes w w.heap.size A bs) :
    Calls Tryz.prog 10 #[.slice A l c, .int .i64 lv] w fun e w' => ∃ A' c', e = .returned (.tuple #[.int .i64 (pkM lv bs).1, .slice A' (pkM lv bs).2.length c']) ∧ Bytes w' w'.heap.size A' (pkM lv bs).2 ∧ Below w.heap.size w w' := by
  have HLL := Lib.hid hl
  have HBY := Lib.hid hb
  by_cases hlv : lv < 0
  · have HE : Hid (pkM lv bs = (0, bs)) := by show _ = _; unfold pkM; rw [if_pos hlv]
    have t1 : decide (lv < 0) = true := decide_eq_true hlv
    rw [HE.out]
    dsimp only
    rw [hl]
    clear hl hb hlv
    go_enter Tryz.func10, Tryz.ntmps10
    go_wp2
    exact bodyPost_ret (results_tmp2 rfl _ _ _) rfl ⟨A, c, rfl, HBY.out, Below.refl _ _⟩
  · have t1 : decide (lv < 0) = false := decide_eq_false hlv
    have hok := toks_okT bs lv bs.length 0 (by omega)
    have hfew := toks_few bs lv
    have HSP := Lib.hid (rsplit_any A l c bs lv w hl hm hb)
    obtain ⟨ts, hts⟩ : ∃ ts, toks bs lv 0 = ts := ⟨_, rfl⟩
    have HPE : Hid (pkB lv bs = pack (blkB ts)) := by show _ = _; rw [pkB, hts]
    rw [hts] at hok hfew HSP
    have hfewB := blkB_few hok
    have HRP : Hid (∀ (W : World) (A2 : Option Addr) (c2 : Nat), Cells W W.heap.size A2 (ts.map tkC).flatten → _) := fun W A2 c2 hc => rput13_any A2 ts.length c2 ts W rfl (by omega) hok (toksOf_tk hok hc).2.1
    have hPL : (pack (blkB ts)).length ≤ (blkB ts).length := pack_length _
    obtain ⟨L, hL⟩ : ∃ L, blkB ts = L := ⟨_, rfl⟩
    rw [hL] at HPE hPL hfewB HRP
    obtain ⟨P, hP⟩ : ∃ P, pack L = P := ⟨_, rfl⟩
    have HPP := Lib.hid hP
    rw [hP] at HPE hPL
    have hLl : L.length ≤ 500000 := by omega
    obtain ⟨k, hk⟩ : ∃ k, ts.length = k := ⟨_, rfl⟩
    rw [hk] at HSP HRP
    obtain ⟨pl, hpl2⟩ : ∃ pl, P.length = pl := ⟨_, rfl⟩
    have HPL := Lib.hid hpl2
    have hpl : pl ≤ 500000 := by omega
    by_cases hlt : pl < l
    · have HE : Hid (pkM lv bs = (1, P)) := by show _ = _; unfold pkM; rw [if_neg hlv, HPE.out, if_pos (by rw [HPL.out, HLL.out]; exact hlt)]
      rw [HE.out]
      dsimp only
      rw [HPL.out]
      have t2 : decide ((pl : Int) < (l : Int)) = true := decide_eq_true (by omega)
      have t2n : decide (pl < l) = true := decide_eq_true hlt
      clear hl hb hlv hok hfew hts hfewB hP hk hpl2 hlt hPL hL
      go_enter Tryz.func10, Tryz.ntmps10
      go_wp2_with (first
        | (go_at_call 25; refine HSP.out.mono ?_; rintro e w2 ⟨A2, c2, rfl, hc2, hb2⟩; have HB2 := Lib.hid hb2; have HPU := Lib.hid (HRP.out w2 A2 c2 hc2); clear hc2 hb2)
        | (go_at_call 24; refine HPU.out.mono ?_; rintro e w3 ⟨A3, c3, rfl, hown3, hb3⟩; have HO3 := Lib.hid (Cells.of_own hown3); have HB3 := Lib.hid (HB2.out.trans (hb3.mono HB2.out.size)); clear hown3 hb3)
        | (go_at_call 23; refine (refPack_any A3 L.length c3 w3.heap.size L w3 rfl (by omega) (Nat.le_refl _) HO3.out).mono ?_; rintro e w4 ⟨A4, c4, rfl, hown4, hb4⟩; rw [HPP.out, HPL.out] at hown4; rw [HPP.out, HPL.out]; have HO4 := Lib.hid (Cells.of_own hown4); have HB4 := Lib.hid (HB3.out.trans (hb4.mono HB3.out.size)); clear hown4 hb4))
      exact bodyPost_ret (results_tmp2 rfl _ _ _) rfl ⟨A4, c4, rfl, HO4.out, HB4.out⟩
    · have HE : Hid (pkM lv bs = (0, bs)) := by show _ = _; unfold pkM; rw [if_neg hlv, HPE.out, if_neg (by rw [HPL.out, HLL.out]; exact hlt)]
      rw [HE.out]
      dsimp only
      rw [HLL.out]
      have t2 : decide ((pl : Int) < (l : Int)) = false := decide_eq_false (by omega)
      have t2n : decide (pl < l) = false := decide_eq_false hlt
      clear hl hb hlv hok hfew hts hfewB hP hk hpl2 hlt hPL hL
      go_enter Tryz.func10, Tryz.ntmps10
      go_wp2_with (first
        | (go_at_call 25; refine HSP.out.mono ?_; rintro e w2 ⟨A2, c2, rfl, hc2, hb2⟩; have HB2 := Lib.hid hb2; have HPU := Lib.hid (HRP.out w2 A2 c2 hc2); clear hc2 hb2)
        | (go_at_call 24; refine HPU.out.mono ?_; rintro e w3 ⟨A3, c3, rfl, hown3, hb3⟩; have HO3 := Lib.hid (Cells.of_own hown3); have HB3 := Lib.hid (HB2.out.trans (hb3.mono HB2.out.size)); clear hown3 hb3)
        | (go_at_call 23; refine (refPack_any A3 L.length c3 w3.heap.size L w3 rfl (by omega) (Nat.le_refl _) HO3.out).mono ?_; rintro e w4 ⟨A4, c4, rfl, hown4, hb4⟩; rw [HPP.out, HPL.out]; have HB4 := Lib.hid (HB3.out.trans (hb4.mono HB3.out.size)); clear hown4 hb4))
      exact bodyPost_ret (results_tmp2 rfl _ _ _) rfl ⟨A, c, rfl, (HBY.out.below HB4.out (Nat.le_refl _)).more HB4.out.size, HB4.out⟩
set_option maxRecDepth 100000 in
set_option maxHeartbeats 1000000 in
theorem lives14_any (w : World) : Calls Tryz.prog 8 #[] w fun e w' => e = .returned (.bool true) ∧ Below w.heap.size w w' := by
  have hb1 : Below w.heap.size w (w.alloc (.cells #[.int .u8 7] 5)) := (Below.refl _ w).alloc (Nat.le_refl _) _
  have hc1 : Bytes (w.alloc (.cells #[.int .u8 7] 5)) (w.alloc (.cells #[.int .u8 7] 5)).heap.size (some ⟨w.heap.size, 0, none⟩) [7] := fun _ =>
    ⟨w.heap.size, 0, rfl, by simp, fun j u hu => by rw [Nat.zero_add, cell_of_row _ _ j _ _ _ (heap_alloc_new w _), ← Array.getElem?_toList]; exact hu⟩
  have HP := Lib.hid (pack14_any (some ⟨w.heap.size, 0, none⟩) 1 1 [7] 3 _ rfl (by omega) (Nat.le_refl _) hc1)
  rw [pkM_7] at HP
  dsimp only at HP
  have HB1 := Lib.hid hb1
  clear hb1 hc1
  go_enter Tryz.func8, Tryz.ntmps8
  go_wp2_with (go_at_call 9; refine HP.out.mono ?_; rintro e w2 ⟨A2, c2, rfl, hown, hb2⟩; have k2 := str_any w2 A2 1 c2 _ [7] (Cells.of_own hown) rfl; have HB2 := Lib.hid (HB1.out.trans (hb2.mono HB1.out.size)); clear hown hb2)
  go_ret
  exact ⟨rfl, HB2.out⟩
set_option maxRecDepth 100000 in
set_option maxHeartbeats 1000000 in
theorem packs_law (A : Option Addr) (l c : Nat) (bs : List UInt8) (lv : Int) (w : World) (hl : bs.length = l) (hcap : l ≤ c) (hb : Bytes w w.heap.size A bs) :
    Calls Tryz.prog 3 #[.slice A l c, .int .i64 lv] w fun e w' => e = .returned (.bool true) ∧ Below w.heap.size w w' := by
  have HLV := Lib.hid lives14_any
  by_cases h3 : 700 < l
  · clear hb hl
    go_enter Tryz.func3, Tryz.ntmps3
    go_wp2_with (go_at_call 8; refine (HLV.out _).mono ?_; rintro e w4 ⟨rfl, hb4⟩; have HB4 := Lib.hid hb4; clear hb4)
    go_ret
    exact ⟨rfl, HB4.out⟩
  have t0 : decide ((700 : Int) < (l : Int)) = false := decide_eq_false (by omega)
  have HPK := Lib.hid (pack14_any A l c bs lv w hl (by omega) hcap hb)
  have HRF : Hid (∀ W, Below w.heap.size w W → _) := fun W hW => rpack14_any A l c bs lv W hl (by omega) ((hb.below hW (Nat.le_refl _)).more hW.size)
  have HBIG := Lib.hid (fun (W : World) (A2 : Option Addr) => pack14_big A2 65537 65537 (-1) W (by omega) (by omega))
  obtain ⟨⟨m, P⟩, hP⟩ : ∃ P, pkM lv bs = P := ⟨_, rfl⟩
  rw [hP] at HPK HRF
  dsimp only at HPK HRF
  obtain ⟨n, hn⟩ : ∃ n, P.length = n := ⟨_, rfl⟩
  have HN := Lib.hid hn
  rw [hn] at HPK HRF
  obtain ⟨str, hS⟩ : ∃ str : ByteArray, (⟨P.toArray⟩ : ByteArray) = str := ⟨_, rfl⟩
  have HSTR := Lib.hid hS
  have mk : ∀ W, (Instr.makeSlice 22 (.int .i64 65537) (.int .i64 65537)).run Tryz.prog W = .ok (.slice (some ⟨W.heap.size, 0, none⟩) 65537 65537) (W.alloc (.cells (madeCells #[.int .u8 0] 65537) 5)) := fun W => make_bytes14 65537 (by omega) W
  clear hb hl hP hn hS
  go_enter Tryz.func3, Tryz.ntmps3
  go_upto_region 6 with (first
    | (go_at_call 9; refine HPK.out.mono ?_; clear HPK; rintro e w2 ⟨A2, c2, rfl, hown2, hb2⟩; have HO2 := Lib.hid (Cells.of_own hown2); have HB2 := Lib.hid hb2; clear hown2 hb2)
    | (go_at_call 10; refine (HRF.out _ HB2.out).mono ?_; rintro e w3 ⟨A3, c3, rfl, hby3, hb3⟩; have HO3 := Lib.hid hby3; have HO23 := Lib.hid ((HO2.out.below hb3 (Nat.le_refl _)).more hb3.size); have HB3 := Lib.hid (HB2.out.trans (hb3.mono HB2.out.size)); clear hby3 hb3)
    | (go_at_call 9; refine (HBIG.out _ _).mono ?_; rintro e w' ⟨rfl, rfl⟩))
  have hb4 : Below w3.heap.size w3 (w3.alloc (.cells (madeCells #[.int .u8 0] 65537) 5)) := (Below.refl _ w3).alloc (Nat.le_refl _) _
  obtain ⟨W4, hW4⟩ : ∃ W4, w3.alloc (.cells (madeCells #[.int .u8 0] 65537) 5) = W4 := ⟨_, rfl⟩
  rw [hW4] at hb4
  rw [hW4]
  have k2 := str_any W4 A2 n c2 _ P (HO23.out.below hb4 (Nat.le_refl _)) HN.out
  have k3 := str_any W4 A3 n c3 _ P (HO3.out.below hb4 (Nat.le_refl _)) HN.out
  rw [HSTR.out] at k2 k3
  have HB4 := Lib.hid (HB3.out.trans (hb4.mono HB3.out.size))
  clear hW4 hb4 mk
  go_wp2_with (go_at_call 8; refine (HLV.out _).mono ?_; rintro e w5 ⟨rfl, hb5⟩; have HB5 := Lib.hid (HB4.out.trans (hb5.mono HB4.out.size)); clear hb5)
  go_ret
  exact ⟨rfl, HB5.out⟩
end Go.Proofs.YtkikgidmioofaaaGreat
