/- Layer 14: a payload is made: the document's answer; the law. -/
import Derived.Test.YtaknladkodibaaaGreatDoorMgQ35349
import Derived.Test.YtaknladkodibaaaGreatDoorMgQ35339
import Derived.Test.YtaknladkodibaaaGreatDoorMgQ353SBytesIn
import Derived.Test.YtaknladkodibaaaGreatDoorMgQ35337
import Derived.Test.YtaknladkodibaaaGreatDoorMgQ35314
import Derived.Test.YtaknladkodibaaaGreatDoorMgQ35343
namespace Go.Proofs.YtaknladkodibaaaGreatDoor
open Go.RowKit BitsP SymP
attribute [local go_sem ↓] Go.wp_at_zero Go.wp_at_succ

set_option maxRecDepth 100000 in
set_option maxHeartbeats 1000000 in
theorem rpack14_any (A : Option Addr) (l c : Nat) (bs : List UInt8) (lv : Int) (w : World) (hl : bs.length = l) (hm : l ≤ 32000) (hb : Bytes w w.heap.size A bs) :
    Calls Tryz.prog 35 #[.slice A l c, .int .i64 lv] w fun e w' => ∃ A' c', e = .returned (.tuple #[.int .i64 (pkM lv bs).1, .slice A' (pkM lv bs).2.length c']) ∧ Bytes w' w'.heap.size A' (pkM lv bs).2 ∧ Below w.heap.size w w' := by
  have HLL := Lib.hid hl
  have HBY := Lib.hid hb
  by_cases hlv : lv < 0
  · have HE : Hid (pkM lv bs = (0, bs)) := by show _ = _; unfold pkM; rw [if_pos hlv]
    have t1 : decide (lv < 0) = true := decide_eq_true hlv
    rw [HE.out]
    dsimp only
    rw [hl]
    clear hl hb hlv
    go_enter Tryz.func35, Tryz.ntmps35
    go_wp2
    exact bodyPost_ret (results_tmp2 rfl _ _ _) rfl ⟨A, c, rfl, HBY.out, Below.refl _ _⟩
  · have t1 : decide (lv < 0) = false := decide_eq_false hlv
    have hok := toks_okT bs lv bs.length 0 (by omega)
    have hfew := toks_few bs lv
    have HSP := Lib.hid (rsplit_any A l c bs lv w hl hm hb)
    obtain ⟨ts, hts⟩ : ∃ ts, toks bs lv 0 = ts := ⟨_, rfl⟩
    have HPE : Hid (pkB lv bs = pack (blkB ts)) := by show _ = _; rw [pkB, hts]
    rw [hts] at hok hfew HSP
    have hfewB := blkB_few hok
    have HRP : Hid (∀ (W : World) (A2 : Option Addr) (c2 : Nat), Cells W W.heap.size A2 (ts.map tkC).flatten → _) := fun W A2 c2 hc => rput13_any A2 ts.length c2 ts W rfl (by omega) hok (toksOf_tk hok hc).2.1
    have hPL : (pack (blkB ts)).length ≤ (blkB ts).length := pack_length _
    obtain ⟨L, hL⟩ : ∃ L, blkB ts = L := ⟨_, rfl⟩
    rw [hL] at HPE hPL hfewB HRP
    obtain ⟨P, hP⟩ : ∃ P, pack L = P := ⟨_, rfl⟩
    have HPP := Lib.hid hP
    rw [hP] at HPE hPL
    have hLl : L.length ≤ 3000000 := by omega
    obtain ⟨k, hk⟩ : ∃ k, ts.length = k := ⟨_, rfl⟩
    rw [hk] at HSP HRP
    obtain ⟨pl, hpl2⟩ : ∃ pl, P.length = pl := ⟨_, rfl⟩
    have HPL := Lib.hid hpl2
    have hpl : pl ≤ 3000000 := by omega
    by_cases hlt : pl < l
    · have HE : Hid (pkM lv bs = (1, P)) := by show _ = _; unfold pkM; rw [if_neg hlv, HPE.out, if_pos (by rw [HPL.out, HLL.out]; exact hlt)]
      rw [HE.out]
      dsimp only
      rw [HPL.out]
      have t2 : decide ((pl : Int) < (l : Int)) = true := decide_eq_true (by omega)
      have t2n : decide (pl < l) = true := decide_eq_true hlt
      clear hl hb hlv hok hfew hts hfewB hP hk hpl2 hlt hPL hL
      go_enter Tryz.func35, Tryz.ntmps35
      go_wp2_with (first
        | (go_at_call 74; refine HSP.out.mono ?_; rintro e w2 ⟨A2, c2, rfl, hc2, hb2⟩; have HB2 := Lib.hid hb2; have HPU := Lib.hid (HRP.out w2 A2 c2 hc2); clear hc2 hb2)
        | (go_at_call 73; refine HPU.out.mono ?_; rintro e w3 ⟨A3, c3, rfl, hown3, hb3⟩; have HO3 := Lib.hid (Cells.of_own hown3); have HB3 := Lib.hid (HB2.out.trans (hb3.mono HB2.out.size)); clear hown3 hb3)
        | (go_at_call 72; refine (refPack_any A3 L.length c3 w3.heap.size L w3 rfl (by omega) (Nat.le_refl _) HO3.out).mono ?_; rintro e w4 ⟨A4, c4, rfl, hown4, hb4⟩; rw [HPP.out, HPL.out] at hown4; rw [HPP.out, HPL.out]; have HO4 := Lib.hid (Cells.of_own hown4); have HB4 := Lib.hid (HB3.out.trans (hb4.mono HB3.out.size)); clear hown4 hb4))
      exact bodyPost_ret (results_tmp2 rfl _ _ _) rfl ⟨A4, c4, rfl, HO4.out, HB4.out⟩
    · have HE : Hid (pkM lv bs = (0, bs)) := by show _ = _; unfold pkM; rw [if_neg hlv, HPE.out, if_neg (by rw [HPL.out, HLL.out]; exact hlt)]
      rw [HE.out]
      dsimp only
      rw [HLL.out]
      have t2 : decide ((pl : Int) < (l : Int)) = false := decide_eq_false (by omega)
      have t2n : decide (pl < l) = false := decide_eq_false hlt
      clear hl hb hlv hok hfew hts hfewB hP hk hpl2 hlt hPL hL
      go_enter Tryz.func35, Tryz.ntmps35
      go_wp2_with (first
        | (go_at_call 74; refine HSP.out.mono ?_; rintro e w2 ⟨A2, c2, rfl, hc2, hb2⟩; have HB2 := Lib.hid hb2; have HPU := Lib.hid (HRP.out w2 A2 c2 hc2); clear hc2 hb2)
        | (go_at_call 73; refine HPU.out.mono ?_; rintro e w3 ⟨A3, c3, rfl, hown3, hb3⟩; have HO3 := Lib.hid (Cells.of_own hown3); have HB3 := Lib.hid (HB2.out.trans (hb3.mono HB2.out.size)); clear hown3 hb3)
        | (go_at_call 72; refine (refPack_any A3 L.length c3 w3.heap.size L w3 rfl (by omega) (Nat.le_refl _) HO3.out).mono ?_; rintro e w4 ⟨A4, c4, rfl, hown4, hb4⟩; rw [HPP.out, HPL.out]; have HB4 := Lib.hid (HB3.out.trans (hb4.mono HB3.out.size)); clear hown4 hb4))
      exact bodyPost_ret (results_tmp2 rfl _ _ _) rfl ⟨A, c, rfl, (HBY.out.below HB4.out (Nat.le_refl _)).more HB4.out.size, HB4.out⟩
end Go.Proofs.YtaknladkodibaaaGreatDoor
/- Layer 22: a member's record, packed: record.Put and the document's answer. -/
namespace Go.Proofs.YtaknladkodibaaaGreatDoor
open Go.RowKit CrcP FieldP BitsP SymP
attribute [local go_sem ↓] Go.wp_at_zero Go.wp_at_succ

/-- A packed record's bytes. -/
def recB (lv : Int) (s : ByteArray) (bs : List UInt8) : List UInt8 := headB (pkM lv bs).1.toNat s.data.toList bs.length (pkM lv bs).2.length (CrcP.sumN (pkM lv bs).2) ++ (pkM lv bs).2
theorem pkM_two (lv : Int) (bs : List UInt8) : ∃ m : Nat, (pkM lv bs).1 = (m : Int) ∧ ((m = 0 ∧ (pkM lv bs).2.length = bs.length) ∨ (m = 1 ∧ (pkM lv bs).2.length < bs.length)) := by
  unfold pkM
  split
  · exact ⟨0, rfl, .inl ⟨rfl, rfl⟩⟩
  · split
    · exact ⟨1, rfl, .inr ⟨rfl, by assumption⟩⟩
    · exact ⟨0, rfl, .inl ⟨rfl, rfl⟩⟩
theorem hdB_pk {s : ByteArray} {m sz ar su : Nat} (hr : rightB s.data.toList = true) (hz : sz ≤ 65536) (h : (m = 0 ∧ ar = sz) ∨ (m = 1 ∧ ar < sz)) : hdB m s.data.toList sz ar su = true := by
  unfold hdB
  rw [hr]
  rcases h with ⟨rfl, rfl⟩ | ⟨rfl, h⟩
  · simp; omega
  · simp; omega
theorem recB_len (lv : Int) (s : ByteArray) (bs : List UInt8) : (recB lv s bs).length = 22 + s.size + (pkM lv bs).2.length := by
  unfold recB
  rw [List.length_append, headB_length]
  rfl
set_option maxRecDepth 100000 in
set_option maxHeartbeats 1000000 in
theorem recPut_no (tg : Nat) (v : Value) (s : ByteArray) (lv : Int) (w : World) (hs : s.size ≤ maxLen) (hr : rightB s.data.toList = false) :
    Calls Tryz.prog 12 #[.pointer (some ⟨tg, 0, none⟩), .string s, v, .int .i64 lv] w fun e w' => e = .returned (.tuple #[.slice none 0 0, .int .i64 6]) ∧ Below w.heap.size w w' := by
  have HR := Lib.hid (rightM_any s w hs)
  rw [hr] at HR
  clear hs hr
  go_enter Tryz.func12, Tryz.ntmps12
  go_wp2_with (go_at_call 30; refine HR.out.mono ?_; rintro e w1 ⟨rfl, hb1⟩; have HB1 := Lib.hid hb1; clear hb1)
  exact bodyPost_ret (results_tmp2 rfl _ _ _) rfl ⟨rfl, HB1.out⟩
set_option maxRecDepth 100000 in
set_option maxHeartbeats 2000000 in
theorem recPut_yes (tg : Nat) (A : Option Addr) (l c : Nat) (bs : List UInt8) (s : ByteArray) (lv : Int) (w : World) (hT : Table w tg) (hW : Wid w) (hs : s.size ≤ maxLen) (hr : rightB s.data.toList = true) (hl : bs.length = l) (hm : l ≤ 32000) (hcap : l ≤ c) (hb : Bytes w w.heap.size A bs) :
    Calls Tryz.prog 12 #[.pointer (some ⟨tg, 0, none⟩), .string s, .slice A l c, .int .i64 lv] w fun e w' => ∃ A' c', e = .returned (.tuple #[.slice A' (recB lv s bs).length c', .int .i64 0]) ∧ OwnY w' w.heap.size (.slice A' (recB lv s bs).length c') (recB lv s bs).length (recB lv s bs) ∧ Below w.heap.size w w' := by
  have HR := Lib.hid (rightM_any s w hs)
  rw [hr] at HR
  have htl := hT.lt
  have hw0 := hW.1
  have h64 := rightB_len' hr
  have hss : s.data.toList.length = s.size := by rw [Array.length_toList]; rfl
  rw [hss] at h64
  have HPK : Hid (∀ W, Below w.heap.size w W → _) := fun W hW => pack14_any A l c bs lv W hl hm hcap ((hb.below hW (Nat.le_refl _)).more hW.size)
  obtain ⟨m, hpm, hpc⟩ := pkM_two lv bs
  rw [recB_len]
  have hRB : recB lv s bs = headB m s.data.toList l (pkM lv bs).2.length (CrcP.sumN (pkM lv bs).2) ++ (pkM lv bs).2 := by unfold recB; rw [hpm, hl]; rfl
  rw [hRB]
  rw [hpm] at HPK
  rw [hl] at hpc
  obtain ⟨P, hP⟩ : ∃ P, (pkM lv bs).2 = P := ⟨_, rfl⟩
  rw [hP] at HPK hpc ⊢
  obtain ⟨n, hn⟩ : ∃ n, P.length = n := ⟨_, rfl⟩
  rw [hn] at HPK hpc ⊢
  have HN := Lib.hid hn
  have hn2 : n ≤ 32000 := by omega
  have hsl := sumN_lt P
  have HSU : Hid (∀ (W : World) (A2 : Option Addr) (c2 : Nat), Bytes W W.heap.size A2 P → Below w.heap.size w W → _) := fun W A2 c2 h2 hW => sum_any tg A2 n c2 P W.heap.size W hn (by omega) (hT.below hW htl) h2
  obtain ⟨su, hsu⟩ : ∃ su, CrcP.sumN P = su := ⟨_, rfl⟩
  rw [hsu] at HSU hsl ⊢
  have HLP : Hid (∀ W, Below w.heap.size w W → _) := fun W hW' => lcPut_yes tg m s l n su W (hW.below hW' hw0 (by have := hW'.size; omega)) hsl (hdB_pk hr (by omega) hpc) (hT.below hW' htl)
  obtain ⟨HD, hHD⟩ : ∃ HD, headB m s.data.toList l n su = HD := ⟨_, rfl⟩
  rw [hHD] at HLP ⊢
  clear hT hW hs hr hl hb hpm hRB hP hn hsu hHD hpc hss
  go_enter Tryz.func12, Tryz.ntmps12
  go_wp2_with (first
    | (go_at_call 30; refine HR.out.mono ?_; rintro e w1 ⟨rfl, hb1⟩; have HB1 := Lib.hid hb1; clear hb1)
    | (go_at_call 31; refine (HPK.out w1 HB1.out).mono ?_; rintro e w2 ⟨A2, c2, rfl, hown2, hb2⟩; have HC2 := Lib.hid (Cells.of_own hown2); have HB2 := Lib.hid (HB1.out.trans (hb2.mono HB1.out.size)); clear hown2 hb2)
    | (go_at_call 33; refine (HSU.out w2 A2 c2 HC2.out HB2.out).mono ?_; rintro e w3 ⟨rfl, rfl⟩)
    | (go_at_call 32; refine (HLP.out w2 HB2.out).mono ?_; rintro e w4 ⟨A4, c4, rfl, ho4, hb4⟩; have HO4 := Lib.hid (ho4.le HB2.out.size); have HC4 := Lib.hid (HC2.out.below hb4 (Nat.le_refl _)); have HB4 := Lib.hid (HB2.out.trans (hb4.mono HB2.out.size)); clear ho4 hb4)
    | (at_builtin; refine wpList_appT w4 byteElem rfl (.tmp 43) (.tmp 44) rfl w.heap.size (.slice A4 (22 + s.size) c4) (22 + s.size) (byteCells HD) rfl HO4.out w2.heap.size A2 n c2 (byteCells P) rfl (by rw [byteCells_length, HN.out]) HC4.out (byteCells_one _) (by unfold maxLen; omega) (by omega) HB4.out.size ?_; intro A5 c5 w5 hap; have HAP := Lib.hid hap; clear hap))
  refine bodyPost_ret (results_tmp2 rfl _ _ _) rfl ?_
  refine ⟨A5, c5, rfl, ?_, HAP.out.below HB4.out HB4.out.size (fun k hk => (HO4.out.lt k hk).1)⟩
  have h := HAP.out.own
  unfold OwnY
  rw [byteCells_append]
  exact h
set_option maxRecDepth 100000 in
set_option maxHeartbeats 1000000 in
theorem refRPut_no (v : Value) (s : ByteArray) (lv : Int) (w : World) (hs : s.size ≤ maxLen) (hr : rightB s.data.toList = false) :
    Calls Tryz.prog 13 #[.string s, v, .int .i64 lv] w fun e w' => e = .returned (.tuple #[.slice none 0 0, .int .i64 6]) ∧ Below w.heap.size w w' := by
  have HR := Lib.hid (refRight_any s w hs)
  rw [hr] at HR
  clear hs hr
  go_enter Tryz.func13, Tryz.ntmps13
  go_wp2_with (go_at_call 34; refine HR.out.mono ?_; rintro e w1 ⟨rfl, hb1⟩; have HB1 := Lib.hid hb1; clear hb1)
  exact bodyPost_ret (results_tmp2 rfl _ _ _) rfl ⟨rfl, HB1.out⟩
set_option maxRecDepth 100000 in
set_option maxHeartbeats 2000000 in
theorem refRPut_yes (A : Option Addr) (l c : Nat) (bs : List UInt8) (s : ByteArray) (lv : Int) (w : World) (hs : s.size ≤ maxLen) (hr : rightB s.data.toList = true) (hl : bs.length = l) (hm : l ≤ 32000) (hb : Bytes w w.heap.size A bs) :
    Calls Tryz.prog 13 #[.string s, .slice A l c, .int .i64 lv] w fun e w' => ∃ A' c', e = .returned (.tuple #[.slice A' (recB lv s bs).length c', .int .i64 0]) ∧ OwnY w' w.heap.size (.slice A' (recB lv s bs).length c') (recB lv s bs).length (recB lv s bs) ∧ Below w.heap.size w w' := by
  have HR := Lib.hid (refRight_any s w hs)
  rw [hr] at HR
  have h64 := rightB_len' hr
  have hss : s.data.toList.length = s.size := by rw [Array.length_toList]; rfl
  rw [hss] at h64
  have HPK : Hid (∀ W, Below w.heap.size w W → _) := fun W hW => rpack14_any A l c bs lv W hl hm ((hb.below hW (Nat.le_refl _)).more hW.size)
  obtain ⟨m, hpm, hpc⟩ := pkM_two lv bs
  rw [recB_len]
  have hRB : recB lv s bs = headB m s.data.toList l (pkM lv bs).2.length (CrcP.sumN (pkM lv bs).2) ++ (pkM lv bs).2 := by unfold recB; rw [hpm, hl]; rfl
  rw [hRB]
  rw [hpm] at HPK
  rw [hl] at hpc
  obtain ⟨P, hP⟩ : ∃ P, (pkM lv bs).2 = P := ⟨_, rfl⟩
  rw [hP] at HPK hpc ⊢
  obtain ⟨n, hn⟩ : ∃ n, P.length = n := ⟨_, rfl⟩
  rw [hn] at HPK hpc ⊢
  have HN := Lib.hid hn
  have hn2 : n ≤ 32000 := by omega
  have hsl := sumN_lt P
  have t0 : decide ((65536 : Int) < (l : Int)) = false := decide_eq_false (by omega)
  have HSU : Hid (∀ (W : World) (A2 : Option Addr) (c2 : Nat), Bytes W W.heap.size A2 P → _) := fun W A2 c2 h2 => refSum_any A2 n c2 P W.heap.size W hn (by omega) h2
  obtain ⟨su, hsu⟩ : ∃ su, CrcP.sumN P = su := ⟨_, rfl⟩
  rw [hsu] at HSU hsl ⊢
  have HLP : Hid (∀ W : World, _) := fun W => lcRefPut_any m s l n su W (hdB_pk hr (by omega) hpc) hsl
  obtain ⟨HD, hHD⟩ : ∃ HD, headB m s.data.toList l n su = HD := ⟨_, rfl⟩
  rw [hHD] at HLP ⊢
  clear hs hr hl hb hpm hRB hP hn hsu hHD hpc hss
  go_enter Tryz.func13, Tryz.ntmps13
  go_wp2_with (first
    | (go_at_call 34; refine HR.out.mono ?_; rintro e w1 ⟨rfl, hb1⟩; have HB1 := Lib.hid hb1; clear hb1)
    | (go_at_call 35; refine (HPK.out w1 HB1.out).mono ?_; rintro e w2 ⟨A2, c2, rfl, hc2, hb2⟩; have HC2 := Lib.hid hc2; have HB2 := Lib.hid (HB1.out.trans (hb2.mono HB1.out.size)); clear hc2 hb2)
    | (go_at_call 36; refine (HSU.out w2 A2 c2 HC2.out).mono ?_; rintro e w3 ⟨rfl, rfl⟩; obtain ⟨W3, hW3⟩ : ∃ W3, w2.alloc (.cells #[.int .i64 (m : Int), .string s, .int .i64 (l : Int), .int .i64 (n : Int), .int .u32 (su : Int)] 74) = W3 := ⟨_, rfl⟩; have HB3 : Hid (Below w.heap.size w W3) := (by show Below _ _ _; rw [← hW3]; exact HB2.out.alloc HB2.out.size _); have HX3 : Hid (Box W3 w2.heap.size #[.int .i64 (m : Int), .string s, .int .i64 (l : Int), .int .i64 (n : Int), .int .u32 (su : Int)] 74) := (by show Box _ _ _ _; rw [← hW3]; exact heap_alloc_new w2 _); have HC3 : Hid (Bytes W3 w2.heap.size A2 P) := (by show Bytes _ _ _ _; rw [← hW3]; exact HC2.out.below ((Below.refl _ w2).alloc (Nat.le_refl _) _) (Nat.le_refl _)); have y0 : W3.cell? ⟨w2.heap.size, 0, none⟩ = some (.int .i64 (m : Int)) := HX3.out.cell 0; have y1 : W3.cell? ⟨w2.heap.size, 1, none⟩ = some (.string s) := HX3.out.cell 1; have y2 : W3.cell? ⟨w2.heap.size, 2, none⟩ = some (.int .i64 (l : Int)) := HX3.out.cell 2; have y3 : W3.cell? ⟨w2.heap.size, 3, none⟩ = some (.int .i64 (n : Int)) := HX3.out.cell 3; have y4 : W3.cell? ⟨w2.heap.size, 4, none⟩ = some (.int .u32 (su : Int)) := HX3.out.cell 4)
    | (go_at_call 37; refine (HLP.out W3).mono ?_; rintro e w4 ⟨A4, c4, rfl, ho4, hb4⟩; have HO4 := Lib.hid (ho4.le HB3.out.size); have HC4 := Lib.hid (HC3.out.below hb4 (by have := HX3.out.lt; omega)); have HB4 := Lib.hid (HB3.out.trans (hb4.mono HB3.out.size)); clear ho4 hb4)
    | (at_builtin; refine wpList_appT w4 byteElem rfl (.tmp 33) (.tmp 34) rfl w.heap.size (.slice A4 (22 + s.size) c4) (22 + s.size) (byteCells HD) rfl HO4.out w2.heap.size A2 n c2 (byteCells P) rfl (by rw [byteCells_length, HN.out]) HC4.out (byteCells_one _) (by unfold maxLen; omega) (by omega) HB4.out.size ?_; intro A5 c5 w5 hap; have HAP := Lib.hid hap; clear hap))
  refine bodyPost_ret (results_tmp2 rfl _ _ _) rfl ?_
  refine ⟨A5, c5, rfl, ?_, HAP.out.below HB4.out HB4.out.size (fun k hk => (HO4.out.lt k hk).1)⟩
  have h := HAP.out.own
  unfold OwnY
  rw [byteCells_append]
  exact h
end Go.Proofs.YtaknladkodibaaaGreatDoor
/- Layer 22: what is put is taken; the example that goes there and back. -/
namespace Go.Proofs.YtaknladkodibaaaGreatDoor
open Go.RowKit CrcP FieldP
attribute [local go_sem ↓] Go.wp_at_zero Go.wp_at_succ

theorem headB_begin (m : Nat) (l : List UInt8) (sz ar su : Nat) : (headB m l sz ar su).take 4 = headBytes := by
  rw [headB_parts]
  rfl
/-- What begins with a head's mark is no tombstone. -/
theorem no_tomb {bs : List UInt8} {p : Nat} (h : (bs.drop p).take 4 = headBytes) : isB tombBytes bs p = false := by
  have hl : p + 4 ≤ bs.length := by
    have h2 := congrArg List.length h
    rw [List.length_take, List.length_drop] at h2
    have h3 : headBytes.length = 4 := rfl
    omega
  rw [isB_in (mk := tombBytes) (by show p + 4 ≤ _; exact hl), show tombBytes.length = 4 from rfl, h]
  decide
theorem head_at {bs : List UInt8} {p m sz ar su : Nat} {s : ByteArray} (hd : hdB m s.data.toList sz ar su = true) (hsu : su < 4294967296) (h : (bs.drop p).take (22 + s.size) = headB m s.data.toList sz ar su) :
    p + 22 + s.size ≤ bs.length ∧ isB tombBytes bs p = false ∧ lcAns bs p = .tuple #[.agg #[.int .i64 (m : Int), .string s, .int .i64 (sz : Int), .int .i64 (ar : Int), .int .u32 (su : Int)], .int .i64 ((p + 22 + s.size : Nat) : Int), .int .i64 0] := by
  have hss : s.data.toList.length = s.size := by rw [Array.length_toList]; rfl
  obtain ⟨h1, h2, h3⟩ := head_back (bs := bs) (l := s.data.toList) (p := p) (m := m) (sz := sz) (ar := ar) (su := su) hd hsu (by rw [hss]; exact h)
  rw [hss] at h1 h3
  have h4 : (bs.drop p).take 4 = headBytes := by
    have h5 := congrArg (List.take 4) h
    rw [List.take_take, headB_begin] at h5
    rwa [Nat.min_eq_left (by omega)] at h5
  refine ⟨h1, no_tomb h4, ?_⟩
  unfold lcAns
  rw [if_neg (by omega), if_neg (by rw [h2]; simp), Int.toNat_natCast, h3]
theorem sumN_none : CrcP.sumN [] = 0 := by decide
def nameA : ByteArray := ⟨#[97]⟩
theorem nameA_right : rightB nameA.data.toList = true := by decide
theorem recB_a : recB 0 nameA [] = headB 0 nameA.data.toList 0 0 0 := by
  have h : pkM 0 [] = (0, []) := by
    unfold pkM
    rw [if_neg (by decide), if_neg (by simp)]
  unfold recB
  rw [h]
  show headB 0 nameA.data.toList 0 0 (CrcP.sumN []) ++ [] = _
  rw [sumN_none, List.append_nil]
theorem rec_a : isB tombBytes (recB 0 nameA []) 0 = false ∧ lcAns (recB 0 nameA []) 0 = .tuple #[.agg #[.int .i64 0, .string nameA, .int .i64 0, .int .i64 0, .int .u32 0], .int .i64 23, .int .i64 0] := by
  have h := head_at (bs := headB 0 nameA.data.toList 0 0 0) (p := 0) (m := 0) (sz := 0) (ar := 0) (su := 0) (s := nameA) (by decide) (by decide) (by rw [List.drop_zero]; exact List.take_of_length_le (by rw [headB_length]; exact Nat.le_refl _))
  rw [recB_a]
  exact h.2
set_option maxHeartbeats 400000 in
theorem recLen_any (k : Int) (S : ByteArray) (a b c d e f g : Int) (w : World) :
    Calls Tryz.prog 18 #[.agg #[.int .i64 k, .string S, .int .i64 a, .int .i64 b, .int .i64 c, .int .i64 d, .int .u32 e, .int .i64 f, .int .i64 g]] w fun x w' => x = .returned (.int .i64 (wrap64 (g - a))) ∧ w.alloc (.cells #[.int .i64 k, .string S, .int .i64 a, .int .i64 b, .int .i64 c, .int .i64 d, .int .u32 e, .int .i64 f, .int .i64 g] 41) = w' := by
  go_enter Tryz.func18, Tryz.ntmps18
  go_wp2
  go_ret
  exact ⟨rfl, rfl⟩
set_option maxRecDepth 100000 in
set_option maxHeartbeats 1000000 in
theorem lives22_any (w : World) (hW : Wid w) : Calls Tryz.prog 10 #[] w fun e w' => e = .returned (.bool true) ∧ Below w.heap.size w w' := by
  have hz := (zero_of_info tableInfo).1
  have HSZ := Lib.hid tableSize
  have hw0 := hW.1
  have HWI := Lib.hid hW
  have HN : Hid ((recB 0 nameA []).length = 23) := by show _ = _; rw [recB_a, headB_length]; rfl
  have HV := Lib.hid rec_a
  have HLN := Lib.hid (fun W => recLen_any 1 nameA 0 23 0 0 0 0 23 W)
  rw [show wrap64 ((23 : Int) - 0) = 23 from by unfold wrap64; omega] at HLN
  have htA : nameA.toList = [97] := by rw [ByteArray.toList_eq]; rfl
  have HP := Lib.hid (fun g W (hV : Wid W) (hT : Table W g) => recPut_yes g none 0 0 [] nameA 0 W hT hV (by decide) nameA_right rfl (by omega) (Nat.le_refl _) (Cells.nil _ _ _))
  clear hW
  go_enter Tryz.func10, Tryz.ntmps10
  go_wp2_with fail
  refine (make_any _).mono ?_
  rintro e w1 ⟨rfl, hb⟩
  have HG := Lib.hid (heap_alloc_last w1 (.cells (Array.replicate 256 (.int .u32 0)) 28))
  have HB := Lib.hid hb
  clear hb
  go_wp2_with (refine wpList_store_row rfl 28 _ _ rfl w1.heap.size tabCells rfl rfl 28 _ HG.out HSZ.out (by rw [Array.size_replicate, tabCells_size]) tabCells_one ?_; rw [World.setRow_alloc_new])
  have HTB := Lib.hid (table_new w1)
  have HB2 := Lib.hid (HB.out.alloc HB.out.size (.cells tabCells 28))
  generalize w1.alloc (.cells tabCells 28) = w2 at *
  clear hz HG HSZ
  refine (HP.out w1.heap.size w2 (HWI.out.below HB2.out hw0 (by have := HB2.out.size; omega)) HTB.out).mono ?_
  rintro e w3 ⟨A, c, rfl, hown, hbel⟩
  rw [HN.out] at hown ⊢
  have HO3 := Lib.hid hown
  have HB3 := Lib.hid (HB2.out.trans (hbel.mono HB2.out.size))
  have HT3 := Lib.hid (HTB.out.below hbel HTB.out.lt)
  have hc : 23 ≤ c := own_capK hown
  clear hown hbel
  have HTK := Lib.hid (recTake_plain w1.heap.size A 23 c _ 0 w3 0 nameA 0 0 0 23 HT3.out (HWI.out.below HB3.out hw0 (by have := HB3.out.size; omega)) HN.out (by omega) hc (by omega) (by omega) HO3.out.cells HV.out.1 HV.out.2 (by decide) (by decide))
  rw [show (23 : Int) + 0 = 23 from rfl] at HTK
  unfold recOk at HTK
  go_wp2_with (first
    | (go_at_call 16; refine HTK.out.mono ?_; rintro e w4 ⟨rfl, hbw⟩; have HB4 := Lib.hid (HB3.out.trans (hbw.mono HB3.out.size)); have HB5 := Lib.hid (HB4.out.alloc HB4.out.size (.cells #[.int .i64 1, .string nameA, .int .i64 0, .int .i64 23, .int .i64 0, .int .i64 0, .int .u32 0, .int .i64 0, .int .i64 23] 41)); clear hbw)
    | (go_at_call 18; refine (HLN.out _).mono ?_; rintro e w6 ⟨rfl, hw6⟩; have HB6 : Hid (Below w.heap.size w w6) := (by show Below _ _ _; rw [← hw6]; exact HB5.out.alloc HB5.out.size _)))
  go_ret
  exact ⟨rfl, HB6.out⟩
end Go.Proofs.YtaknladkodibaaaGreatDoor
/- Layer 22: a member's record, packed or streamed: the law. -/
namespace Go.Proofs.YtaknladkodibaaaGreatDoor
open Go.RowKit CrcP FieldP
attribute [local go_sem ↓] Go.wp_at_zero Go.wp_at_succ

/-- Bytes and an error are told. -/
def PuQ (w : World) (t : Int × List UInt8) (e : Ending) (w' : World) : Prop := ∃ A' c', e = .returned (.tuple #[.slice A' t.2.length c', .int .i64 t.1]) ∧ Bytes w' w'.heap.size A' t.2 ∧ Below w.heap.size w w'
def putR (lv : Int) (s : ByteArray) (bs : List UInt8) : Int × List UInt8 := if rightB s.data.toList = true then (0, recB lv s bs) else (6, [])
def strR (s : ByteArray) (ls : List PcV) : Int × List UInt8 := if rightB s.data.toList = true then (0, strB s ls) else (6, [])
theorem PuQ.no {w w' : World} {t : Int × List UInt8} (ht : t = (6, [])) (hb : Below w.heap.size w w') : PuQ w t (.returned (.tuple #[.slice none 0 0, .int .i64 6])) w' := by
  subst ht
  exact ⟨none, 0, rfl, Cells.nil _ _ _, hb⟩
theorem putR_no {lv : Int} {s : ByteArray} {bs : List UInt8} (h : rightB s.data.toList = false) : putR lv s bs = (6, []) := if_neg (by rw [h]; decide)
theorem strR_no {s : ByteArray} {ls : List PcV} (h : rightB s.data.toList = false) : strR s ls = (6, []) := if_neg (by rw [h]; decide)
theorem recPut_all (tg : Nat) (A : Option Addr) (l c : Nat) (bs : List UInt8) (s : ByteArray) (lv : Int) (w : World) (hT : Table w tg) (hW : Wid w) (hs : s.size ≤ maxLen) (hl : bs.length = l) (hm : l ≤ 32000) (hcap : l ≤ c) (hb : Bytes w w.heap.size A bs) :
    Calls Tryz.prog 12 #[.pointer (some ⟨tg, 0, none⟩), .string s, .slice A l c, .int .i64 lv] w (PuQ w (putR lv s bs)) := by
  cases hr : rightB s.data.toList with
  | false =>
    refine (recPut_no tg _ s lv w hs hr).mono ?_
    rintro e w' ⟨rfl, hb⟩
    exact PuQ.no (putR_no hr) hb
  | true =>
    refine (recPut_yes tg A l c bs s lv w hT hW hs hr hl hm hcap hb).mono ?_
    rintro e w' ⟨A', c', rfl, ho, hb⟩
    rw [show putR lv s bs = (0, recB lv s bs) from if_pos hr]
    exact ⟨A', c', rfl, ho.cells, hb⟩
theorem refRPut_all (A : Option Addr) (l c : Nat) (bs : List UInt8) (s : ByteArray) (lv : Int) (w : World) (hs : s.size ≤ maxLen) (hl : bs.length = l) (hm : l ≤ 32000) (hb : Bytes w w.heap.size A bs) :
    Calls Tryz.prog 13 #[.string s, .slice A l c, .int .i64 lv] w (PuQ w (putR lv s bs)) := by
  cases hr : rightB s.data.toList with
  | false =>
    refine (refRPut_no _ s lv w hs hr).mono ?_
    rintro e w' ⟨rfl, hb⟩
    exact PuQ.no (putR_no hr) hb
  | true =>
    refine (refRPut_yes A l c bs s lv w hs hr hl hm hb).mono ?_
    rintro e w' ⟨A', c', rfl, ho, hb⟩
    rw [show putR lv s bs = (0, recB lv s bs) from if_pos hr]
    exact ⟨A', c', rfl, ho.cells, hb⟩
theorem recStr_all (tg : Nat) (A : Option Addr) (l c : Nat) (ls : List PcV) (s : ByteArray) (w : World) (hT : Table w tg) (hW : Wid w) (hs : s.size ≤ maxLen) (hl : ls.length = l) (hm : l ≤ 1000) (hrw : RowsIn w A ls) (hall : ∀ x ∈ ls, x.1.length ≤ 65535) (hsum : sumP ls ≤ 65535) :
    Calls Tryz.prog 14 #[.pointer (some ⟨tg, 0, none⟩), .string s, .slice A l c] w (PuQ w (strR s ls)) := by
  cases hr : rightB s.data.toList with
  | false =>
    refine (recStr_no tg _ s w hs hr).mono ?_
    rintro e w' ⟨rfl, hb⟩
    exact PuQ.no (strR_no hr) hb
  | true =>
    refine (recStr_yes tg A l c ls s w hT hW hs hr hl hm hrw hall hsum).mono ?_
    rintro e w' ⟨A', c', rfl, ho, hb⟩
    rw [show strR s ls = (0, strB s ls) from if_pos hr]
    exact ⟨A', c', rfl, ho.cells, hb⟩
theorem refStr_all (A : Option Addr) (l c : Nat) (ls : List PcV) (s : ByteArray) (w : World) (hs : s.size ≤ maxLen) (hl : ls.length = l) (hm : l ≤ 1000) (hrw : RowsIn w A ls) (hall : ∀ x ∈ ls, x.1.length ≤ 3000) (hsum : sumP ls ≤ 65535) :
    Calls Tryz.prog 15 #[.string s, .slice A l c] w (PuQ w (strR s ls)) := by
  cases hr : rightB s.data.toList with
  | false =>
    refine (refStr_no _ s w hs hr).mono ?_
    rintro e w' ⟨rfl, hb⟩
    exact PuQ.no (strR_no hr) hb
  | true =>
    refine (refStr_yes A l c ls s w hs hr hl hm hrw hall hsum).mono ?_
    rintro e w' ⟨A', c', rfl, ho, hb⟩
    rw [show strR s ls = (0, strB s ls) from if_pos hr]
    exact ⟨A', c', rfl, ho.cells, hb⟩
/-- Are rows more than are gone through? -/
def fewR (ls : List PcV) : Prop := ls.length ≤ 20 ∧ ∀ x ∈ ls, x.1.length ≤ 1000
set_option maxRecDepth 100000 in
set_option maxHeartbeats 600000 in
theorem great22_any (A : Option Addr) (l c : Nat) (ls : List PcV) (w : World) (hl : ls.length = l) (hm : l ≤ 9223372036854775807) (hr : RowsIn w A ls) (hlen : ∀ x ∈ ls, x.1.length ≤ 9223372036854775807) :
    Calls Tryz.prog 9 #[.slice A l c] w fun e w' => ∃ g, e = .returned (.bool g) ∧ w = w' ∧ (g = false → fewR ls) := by
  have HL := Lib.hid hl
  have HR := Lib.hid hr
  have HLE := Lib.hid hlen
  clear hl hr hlen
  go_enter Tryz.func9, Tryz.ntmps9
  go_wp2
  go_loopg [3] l (fun gk si wr => ∃ i : Nat, i + gk = l ∧ i ≤ 20 ∧ si = .int .i64 (i : Int) ∧ w = wr ∧ ∀ j x, j < i → ls[j]? = some x → x.1.length ≤ 1000)
  case atStart => exact ⟨0, by omega, by omega, rfl, rfl, fun j x h => by omega⟩
  case round =>
    obtain ⟨i, hi, hi20, rfl, rfl, hall⟩ := hrel
    have HA := Lib.hid hall
    clear hall
    by_cases hil : i < l
    · have t1 : decide ((i : Int) < (l : Int)) = true := decide_eq_true (by omega)
      by_cases h20 : i < 20
      · have t2 : decide ((i : Int) < 20) = true := decide_eq_true (by omega)
        obtain ⟨x, hx⟩ : ∃ x, ls[i]? = some x := ⟨_, List.getElem?_eq_getElem (by rw [HL.out]; exact hil)⟩
        obtain ⟨b, o, rfl, hbB, hcc⟩ := HR.out.row (by rw [List.length_map, HL.out]; omega)
        have ci : w.cell? ⟨b, o + i, none⟩ = some (pcC x) := hcc i _ (by rw [List.getElem?_map, hx]; rfl)
        have hx63 := HLE.out x (List.mem_of_getElem? hx)
        have HX := Lib.hid hx
        obtain ⟨r, A2, k2⟩ := x
        have ci2 : w.cell? ⟨b, o + i, none⟩ = some (.slice A2 r.length k2) := ci
        have hx63' : r.length ≤ 9223372036854775807 := hx63
        obtain ⟨rl, hrl⟩ : ∃ rl, r.length = rl := ⟨_, rfl⟩
        have HRL := Lib.hid hrl
        rw [hrl] at ci2 hx63'
        clear hcc ci hx hbB hx63 hrl
        by_cases h3 : 1000 < rl
        · have u1 : (1000 : Int) < (rl : Int) := by omega
          go_wp2
          go_ret
          exact ⟨true, rfl, rfl, fun h => by cases h⟩
        · have u1 : ¬ (1000 : Int) < (rl : Int) := by omega
          go_wp2
          go_roundg (gk - 1)
          case measure => omega
          case rel =>
            refine ⟨i + 1, by omega, by omega, by go_num, rfl, fun j y hj hy => ?_⟩
            by_cases hji : j = i
            · subst hji
              rw [HX.out] at hy
              cases hy
              show r.length ≤ 1000
              rw [HRL.out]
              omega
            · exact HA.out j y (by omega) hy
      · have t2 : decide ((i : Int) < 20) = false := decide_eq_false (by omega)
        have t3 : decide ((20 : Int) < (l : Int)) = true := decide_eq_true (by omega)
        go_wp2
        go_ret
        exact ⟨true, rfl, rfl, fun h => by cases h⟩
    · have t1 : decide ((i : Int) < (l : Int)) = false := decide_eq_false (by omega)
      have t3 : decide ((20 : Int) < (l : Int)) = false := decide_eq_false (by omega)
      go_wp2
      go_ret
      refine ⟨false, rfl, rfl, fun _ => ⟨by rw [HL.out]; omega, fun x hx => ?_⟩⟩
      obtain ⟨j, hj, rfl⟩ := List.mem_iff_getElem.1 hx
      exact HA.out j _ (by rw [HL.out] at hj; omega) (List.getElem?_eq_getElem hj)
/-- All data of rows. -/
def datR (ls : List PcV) : List UInt8 := (ls.map (·.1)).flatten
theorem datR_up {ls : List PcV} {i : Nat} {x : PcV} (h : ls[i]? = some x) : datR (ls.take (i + 1)) = datR (ls.take i) ++ x.1 := by
  rw [datR, take_up h, List.map_append, List.flatten_append]
  simp [datR]
theorem sumP_few : ∀ (ls : List PcV) (m : Nat), (∀ x ∈ ls, x.1.length ≤ m) → sumP ls ≤ m * ls.length
  | [], m, _ => by simp [sumP]
  | x :: l, m, h => by
    have h1 := sumP_few l m (fun y hy => h y (by simp [hy]))
    have h2 := h x (by simp)
    simp only [sumP, List.map_cons, List.sum_cons, List.length_cons] at h1 ⊢
    rw [Nat.mul_add]
    omega
set_option maxRecDepth 100000 in
set_option maxHeartbeats 2000000 in
theorem recputs_law (s : ByteArray) (A : Option Addr) (l c : Nat) (ls : List PcV) (lv : Int) (w : World) (hW : Wid w) (hs : s.size ≤ maxLen) (hl : ls.length = l) (hm : l ≤ 9223372036854775807) (hr : RowsIn w A ls) (hlen : ∀ x ∈ ls, x.1.length ≤ 9223372036854775807) :
    Calls Tryz.prog 3 #[.string s, .slice A l c, .int .i64 lv] w fun e w' => e = .returned (.bool true) ∧ Below w.heap.size w w' := by
  have hw0 := hW.1
  have HWI : Hid (∀ W, Below w.heap.size w W → Wid W) := fun W hB => hW.below hB hw0 (by have := hB.size; omega)
  have HG := Lib.hid (great22_any A l c ls w hl hm hr hlen)
  have HLV := Lib.hid (lives22_any w hW)
  clear hW
  unfold maxLen at hs
  by_cases h3 : 300 < s.size
  · have t0 : decide ((300 : Int) < (s.size : Int)) = true := decide_eq_true (by omega)
    clear hl hr h3 hlen
    go_enter Tryz.func3, Tryz.ntmps3
    go_wp2_with (go_at_call 10; refine HLV.out.mono ?_; rintro e w4 ⟨rfl, hb4⟩; have HB4 := Lib.hid hb4; clear hb4)
    go_ret
    exact ⟨rfl, HB4.out⟩
  have t0 : decide ((300 : Int) < (s.size : Int)) = false := decide_eq_false (by omega)
  have hz := (zero_of_info tableInfo).1
  have HSZ := Lib.hid tableSize
  have HL := Lib.hid hl
  have HR := Lib.hid hr
  have hs3 : s.size ≤ maxLen := by unfold maxLen; omega
  clear hl hr hlen h3 hs
  go_enter Tryz.func3, Tryz.ntmps3
  go_wp2_with fail
  refine HG.out.mono ?_
  rintro e w0 ⟨g, rfl, rfl, hg⟩
  cases g with
  | true =>
    clear hg
    go_wp2_with (go_at_call 10; refine HLV.out.mono ?_; rintro e w4 ⟨rfl, hb4⟩; have HB4 := Lib.hid hb4; clear hb4)
    go_ret
    exact ⟨rfl, HB4.out⟩
  | false =>
  obtain ⟨hf1, hf2⟩ := hg rfl
  clear hg
  have hl20 : l ≤ 20 := by rw [← HL.out]; exact hf1
  have HF := Lib.hid hf2
  have hsum : sumP ls ≤ 20000 := by
    have h1 := sumP_few ls 1000 hf2
    omega
  clear hf1 hf2
  go_wp2
  go_loopg [7, 8] l (fun gk sa si wr => ∃ (i m c' : Nat) (A' : Option Addr), i + gk = l ∧ si = .int .i64 (i : Int) ∧ sa = .slice A' m c' ∧ m ≤ 1400 ∧ OwnB wr w.heap.size 5 (.slice A' m c') m (datR (ls.take i)) ∧ Below w.heap.size w wr)
  case atStart => exact ⟨0, 0, 0, none, by omega, rfl, rfl, by omega, World.ownsRow_nil _ _ _ _, Below.refl _ _⟩
  case round =>
    obtain ⟨i, m, c', A', hi, rfl, rfl, hm2, hown, hbel⟩ := hrel
    have HO := Lib.hid hown
    have HB := Lib.hid hbel
    clear hown hbel
    by_cases hgo : i < l ∧ m < 400
    · obtain ⟨hil, hm4⟩ := hgo
      have t1 : decide ((i : Int) < (l : Int)) = true := decide_eq_true (by omega)
      have t2 : decide ((m : Int) < 400) = true := decide_eq_true (by omega)
      obtain ⟨x, hx⟩ : ∃ x, ls[i]? = some x := ⟨_, List.getElem?_eq_getElem (by rw [HL.out]; exact hil)⟩
      obtain ⟨b, o, rfl, hbB, hcc⟩ := HR.out.row (by rw [List.length_map, HL.out]; omega)
      have ci : wr.cell? ⟨b, o + i, none⟩ = some (pcC x) := (HB.out.cell (p := ⟨b, o + i, none⟩) (by show b < _; omega)).trans (hcc i _ (by rw [List.getElem?_map, hx]; rfl))
      have hex := HR.out.each x (List.mem_of_getElem? hx)
      have hx3 := HF.out x (List.mem_of_getElem? hx)
      have HPU := Lib.hid (datR_up hx)
      obtain ⟨r, A2, k2⟩ := x
      have ci2 : wr.cell? ⟨b, o + i, none⟩ = some (.slice A2 r.length k2) := ci
      have HBR : Hid (Bytes wr w.heap.size A2 r) := hex.1.below HB.out (Nat.le_refl _)
      have hrl : r.length ≤ 1000 := hx3
      obtain ⟨rl, hrl2⟩ : ∃ rl, r.length = rl := ⟨_, rfl⟩
      have HRL := Lib.hid hrl2
      rw [hrl2] at ci2 hrl
      clear hcc ci hx hex hx3 hrl2
      go_wp2_with (at_builtin; refine wpList_app _ byteElem rfl (.tmp 37) (.tmp 41) rfl w.heap.size (.slice A' m c') m (byteCells (datR (ls.take i))) rfl HO.out w.heap.size A2 rl k2 (byteCells r) rfl (by rw [byteCells_length, HRL.out, Nat.mul_one]) HBR.out (byteCells_one _) (by unfold maxLen; omega) (by omega) HB.out.size ?_; intro A6 c6 w6 hA; have HA := Lib.hid hA; clear hA)
      go_roundg (gk - 1)
      case measure => omega
      case rel =>
        refine ⟨i + 1, m + rl, c6, A6, by omega, by go_num, rfl, by omega, ?_, HA.out.below HB.out HB.out.size (own_base HO.out)⟩
        rw [HPU.out]
        have := HA.out.own
        show World.ownsRow _ _ _ _ _ _ _
        rw [byteCells_append]
        exact this
    · have hex : (¬ i < l ∧ decide ((i : Int) < (l : Int)) = false) ∨ (i < l ∧ decide ((i : Int) < (l : Int)) = true ∧ decide ((m : Int) < 400) = false) := by
        by_cases hil : i < l
        · exact .inr ⟨hil, decide_eq_true (by omega), decide_eq_false (by omega)⟩
        · exact .inl ⟨hil, decide_eq_false (by omega)⟩
      have HML : Hid ((datR (ls.take i)).length = m) := by have h1 := HO.out.1; rw [byteCells_length, Nat.mul_one] at h1; exact h1
      have HCP : Hid (m ≤ c') := by
        rcases HO.out.2 with ⟨h1, h2⟩ | ⟨g, cap, cur, hv, _, _, hnc, _⟩
        · simp only [Value.slice.injEq] at h1; show _ ≤ _; omega
        · simp only [Value.slice.injEq] at hv; obtain ⟨_, _, rfl⟩ := hv; exact hnc
      have HCB : Hid (∀ W, Below wr.heap.size wr W → Bytes W W.heap.size A' (datR (ls.take i))) := fun W hW => ((Cells.of_own HO.out).below hW (Nat.le_refl _)).more hW.size
      obtain ⟨ds, hds⟩ : ∃ ds, datR (ls.take i) = ds := ⟨_, rfl⟩
      rw [hds] at HML HCB
      have HP1 : Hid (∀ (tg : Nat) W, Table W tg → Below wr.heap.size wr W → _) := fun tg W hT hW => recPut_all tg A' m c' ds s lv W hT (HWI.out W (HB.out.trans (hW.mono HB.out.size))) hs3 HML.out (by omega) HCP.out (HCB.out W hW)
      have HP2 : Hid (∀ W, Below wr.heap.size wr W → _) := fun W hW => refRPut_all A' m c' ds s lv W hs3 HML.out (by omega) (HCB.out W hW)
      have HP3 : Hid (∀ (tg : Nat) W, Table W tg → Below wr.heap.size wr W → _) := fun tg W hT hW => recStr_all tg A l c ls s W hT (HWI.out W (HB.out.trans (hW.mono HB.out.size))) hs3 HL.out (by omega) (HR.out.belowS (HB.out.trans (hW.mono HB.out.size))) (fun x hx => Nat.le_trans (HF.out x hx) (by omega)) (by omega)
      have HP4 : Hid (∀ W, Below wr.heap.size wr W → _) := fun W hW => refStr_all A l c ls s W hs3 HL.out (by omega) (HR.out.belowS (HB.out.trans (hW.mono HB.out.size))) (fun x hx => Nat.le_trans (HF.out x hx) (by omega)) (by omega)
      obtain ⟨⟨e1, R1⟩, hR1⟩ : ∃ T, putR lv s ds = T := ⟨_, rfl⟩
      obtain ⟨⟨e2, R2⟩, hR2⟩ : ∃ T, strR s ls = T := ⟨_, rfl⟩
      rw [hR1] at HP1 HP2
      rw [hR2] at HP3 HP4
      unfold PuQ at HP1 HP2 HP3 HP4
      dsimp only at HP1 HP2 HP3 HP4
      obtain ⟨n1, hn1⟩ : ∃ n, R1.length = n := ⟨_, rfl⟩
      obtain ⟨n2, hn2⟩ : ∃ n, R2.length = n := ⟨_, rfl⟩
      have HN1 := Lib.hid hn1
      have HN2 := Lib.hid hn2
      rw [hn1] at HP1 HP2
      rw [hn2] at HP3 HP4
      obtain ⟨s1, hS1⟩ : ∃ str : ByteArray, (⟨R1.toArray⟩ : ByteArray) = str := ⟨_, rfl⟩
      obtain ⟨s2, hS2⟩ : ∃ str : ByteArray, (⟨R2.toArray⟩ : ByteArray) = str := ⟨_, rfl⟩
      have HS1 := Lib.hid hS1
      have HS2 := Lib.hid hS2
      clear hR1 hR2 hn1 hn2 hS1 hS2 hds hgo hsum
      rcases hex with ⟨hil, t1⟩ | ⟨hil, t1, t2⟩
      all_goals
        go_wp2_with fail
        refine (make_any _).mono ?_
        rintro e w1 ⟨rfl, hb⟩
        have HG := Lib.hid (heap_alloc_last w1 (.cells (Array.replicate 256 (.int .u32 0)) 28))
        have HB1 := Lib.hid hb
        clear hb
        go_wp2_with (refine wpList_store_row rfl 28 _ _ rfl w1.heap.size tabCells rfl rfl 28 _ HG.out HSZ.out (by rw [Array.size_replicate, tabCells_size]) tabCells_one ?_; rw [World.setRow_alloc_new]; have HTB := Lib.hid (table_new w1); have HB2 := Lib.hid (HB1.out.alloc HB1.out.size (.cells tabCells 28)); generalize w1.alloc (.cells tabCells 28) = w2 at *)
        clear hz HG HSZ
        refine (HP1.out _ _ HTB.out HB2.out).mono ?_
        rintro e w3 ⟨A3, c3, rfl, hc3, hb3⟩
        have HC3 := Lib.hid hc3
        have HT3 := Lib.hid (HTB.out.below hb3 HTB.out.lt)
        have HB3 := Lib.hid (HB2.out.trans (hb3.mono HB2.out.size))
        clear hc3 hb3
        go_upto_region 13 with (first
          | (go_at_call 13; refine (HP2.out _ HB3.out).mono ?_; rintro e w4 ⟨A4, c4, rfl, hc4, hb4⟩; have HC4 := Lib.hid hc4; have HC34 := Lib.hid ((HC3.out.below hb4 (Nat.le_refl _)).more hb4.size); have HT4 := Lib.hid (HT3.out.below hb4 HT3.out.lt); have HB4 := Lib.hid (HB3.out.trans (hb4.mono HB3.out.size)); clear hc4 hb4)
          | (go_at_call 14; refine (HP3.out _ _ HT4.out HB4.out).mono ?_; rintro e w5 ⟨A5, c5, rfl, hc5, hb5⟩; have HC5 := Lib.hid hc5; have HC35 := Lib.hid ((HC34.out.below hb5 (Nat.le_refl _)).more hb5.size); have HC45 := Lib.hid ((HC4.out.below hb5 (Nat.le_refl _)).more hb5.size); have HB5 := Lib.hid (HB4.out.trans (hb5.mono HB4.out.size)); clear hc5 hb5)
          | (go_at_call 15; refine (HP4.out _ HB5.out).mono ?_; rintro e w6 ⟨A6, c6, rfl, hc6, hb6⟩; have HC6 := Lib.hid hc6; have HC36 := Lib.hid ((HC35.out.below hb6 (Nat.le_refl _)).more hb6.size); have HC46 := Lib.hid ((HC45.out.below hb6 (Nat.le_refl _)).more hb6.size); have HC56 := Lib.hid ((HC5.out.below hb6 (Nat.le_refl _)).more hb6.size); have HB6 := Lib.hid (HB5.out.trans (hb6.mono HB5.out.size)); clear hc6 hb6))
        have k1 := str_any w6 A3 n1 c3 _ R1 HC36.out HN1.out
        have k2 := str_any w6 A4 n1 c4 _ R1 HC46.out HN1.out
        have k3 := str_any w6 A5 n2 c5 _ R2 HC56.out HN2.out
        have k4 := str_any w6 A6 n2 c6 _ R2 HC6.out HN2.out
        rw [HS1.out] at k1 k2
        rw [HS2.out] at k3 k4
        have HB6' := Lib.hid (HB.out.trans (HB6.out.mono HB.out.size))
        go_wp2_with (go_at_call 10; refine (lives22_any w6 (HWI.out w6 HB6'.out)).mono ?_; rintro e w7 ⟨rfl, hb7⟩; have HB7 := Lib.hid (HB6'.out.trans (hb7.mono HB6'.out.size)); clear hb7)
        go_ret
        exact ⟨rfl, HB7.out⟩
end Go.Proofs.YtaknladkodibaaaGreatDoor
