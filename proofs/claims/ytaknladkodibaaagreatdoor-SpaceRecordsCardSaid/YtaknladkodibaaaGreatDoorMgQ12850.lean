/- Layer 14: a payload is made: the document's answer; the law. -/
import Derived.Test.YtaknladkodibaaaGreatDoorMgQ12849
import Derived.Test.YtaknladkodibaaaGreatDoorMgQ12840
import Derived.Test.YtaknladkodibaaaGreatDoorMgQ128SBytesIn
import Derived.Test.YtaknladkodibaaaGreatDoorMgQ12839
import Derived.Test.YtaknladkodibaaaGreatDoorMgQ12814
import Derived.Test.YtaknladkodibaaaGreatDoorMgQ12843
import Derived.Test.YtaknladkodibaaaGreatDoorMgQ128SSpV
namespace Go.Proofs.YtaknladkodibaaaGreatDoor
open Go.RowKit BitsP SymP
attribute [local go_sem ↓] Go.wp_at_zero Go.wp_at_succ

end Go.Proofs.YtaknladkodibaaaGreatDoor
/- Layer 22: a member's record, packed: record.Put and the document's answer. -/
namespace Go.Proofs.YtaknladkodibaaaGreatDoor
open Go.RowKit CrcP FieldP BitsP SymP
attribute [local go_sem ↓] Go.wp_at_zero Go.wp_at_succ

/-- A packed record's bytes. -/
def recB (lv : Int) (s : ByteArray) (bs : List UInt8) : List UInt8 := headB (pkM lv bs).1.toNat s.data.toList bs.length (pkM lv bs).2.length (CrcP.sumN (pkM lv bs).2) ++ (pkM lv bs).2
theorem pkM_two (lv : Int) (bs : List UInt8) : ∃ m : Nat, (pkM lv bs).1 = (m : Int) ∧ ((m = 0 ∧ (pkM lv bs).2.length = bs.length) ∨ (m = 1 ∧ (pkM lv bs).2.length < bs.length)) := by
  unfold pkM
  split
  · exact ⟨0, rfl, .inl ⟨rfl, rfl⟩⟩
  · split
    · exact ⟨1, rfl, .inr ⟨rfl, by assumption⟩⟩
    · exact ⟨0, rfl, .inl ⟨rfl, rfl⟩⟩
theorem hdB_pk {s : ByteArray} {m sz ar su : Nat} (hr : rightB s.data.toList = true) (hz : sz ≤ 65536) (h : (m = 0 ∧ ar = sz) ∨ (m = 1 ∧ ar < sz)) : hdB m s.data.toList sz ar su = true := by
  unfold hdB
  rw [hr]
  rcases h with ⟨rfl, rfl⟩ | ⟨rfl, h⟩
  · simp; omega
  · simp; omega
theorem recB_len (lv : Int) (s : ByteArray) (bs : List UInt8) : (recB lv s bs).length = 22 + s.size + (pkM lv bs).2.length := by
  unfold recB
  rw [List.length_append, headB_length]
  rfl
set_option maxRecDepth 100000 in
set_option maxHeartbeats 1000000 in
theorem recPut_no (tg : Nat) (v : Value) (s : ByteArray) (lv : Int) (w : World) (hs : s.size ≤ maxLen) (hr : rightB s.data.toList = false) :
    Calls Tryz.prog 12 #[.pointer (some ⟨tg, 0, none⟩), .string s, v, .int .i64 lv] w fun e w' => e = .returned (.tuple #[.slice none 0 0, .int .i64 6]) ∧ Below w.heap.size w w' := by
  have HR := Lib.hid (rightM_any s w hs)
  rw [hr] at HR
  clear hs hr
  go_enter Tryz.func12, Tryz.ntmps12
  go_wp2_with (go_at_call 30; refine HR.out.mono ?_; rintro e w1 ⟨rfl, hb1⟩; have HB1 := Lib.hid hb1; clear hb1)
  exact bodyPost_ret (results_tmp2 rfl _ _ _) rfl ⟨rfl, HB1.out⟩
set_option maxRecDepth 100000 in
set_option maxHeartbeats 2000000 in
theorem recPut_yes (tg : Nat) (A : Option Addr) (l c : Nat) (bs : List UInt8) (s : ByteArray) (lv : Int) (w : World) (hT : Table w tg) (hW : Wid w) (hs : s.size ≤ maxLen) (hr : rightB s.data.toList = true) (hl : bs.length = l) (hm : l ≤ 32000) (hcap : l ≤ c) (hb : Bytes w w.heap.size A bs) :
    Calls Tryz.prog 12 #[.pointer (some ⟨tg, 0, none⟩), .string s, .slice A l c, .int .i64 lv] w fun e w' => ∃ A' c', e = .returned (.tuple #[.slice A' (recB lv s bs).length c', .int .i64 0]) ∧ OwnY w' w.heap.size (.slice A' (recB lv s bs).length c') (recB lv s bs).length (recB lv s bs) ∧ Below w.heap.size w w' := by
  have HR := Lib.hid (rightM_any s w hs)
  rw [hr] at HR
  have htl := hT.lt
  have hw0 := hW.1
  have h64 := rightB_len' hr
  have hss : s.data.toList.length = s.size := by rw [Array.length_toList]; rfl
  rw [hss] at h64
  have HPK : Hid (∀ W, Below w.heap.size w W → _) := fun W hW => pack14_any A l c bs lv W hl hm hcap ((hb.below hW (Nat.le_refl _)).more hW.size)
  obtain ⟨m, hpm, hpc⟩ := pkM_two lv bs
  rw [recB_len]
  have hRB : recB lv s bs = headB m s.data.toList l (pkM lv bs).2.length (CrcP.sumN (pkM lv bs).2) ++ (pkM lv bs).2 := by unfold recB; rw [hpm, hl]; rfl
  rw [hRB]
  rw [hpm] at HPK
  rw [hl] at hpc
  obtain ⟨P, hP⟩ : ∃ P, (pkM lv bs).2 = P := ⟨_, rfl⟩
  rw [hP] at HPK hpc ⊢
  obtain ⟨n, hn⟩ : ∃ n, P.length = n := ⟨_, rfl⟩
  rw [hn] at HPK hpc ⊢
  have HN := Lib.hid hn
  have hn2 : n ≤ 32000 := by omega
  have hsl := sumN_lt P
  have HSU : Hid (∀ (W : World) (A2 : Option Addr) (c2 : Nat), Bytes W W.heap.size A2 P → Below w.heap.size w W → _) := fun W A2 c2 h2 hW => sum_any tg A2 n c2 P W.heap.size W hn (by omega) (hT.below hW htl) h2
  obtain ⟨su, hsu⟩ : ∃ su, CrcP.sumN P = su := ⟨_, rfl⟩
  rw [hsu] at HSU hsl ⊢
  have HLP : Hid (∀ W, Below w.heap.size w W → _) := fun W hW' => lcPut_yes tg m s l n su W (hW.below hW' hw0 (by have := hW'.size; omega)) hsl (hdB_pk hr (by omega) hpc) (hT.below hW' htl)
  obtain ⟨HD, hHD⟩ : ∃ HD, headB m s.data.toList l n su = HD := ⟨_, rfl⟩
  rw [hHD] at HLP ⊢
  clear hT hW hs hr hl hb hpm hRB hP hn hsu hHD hpc hss
  go_enter Tryz.func12, Tryz.ntmps12
  go_wp2_with (first
    | (go_at_call 30; refine HR.out.mono ?_; rintro e w1 ⟨rfl, hb1⟩; have HB1 := Lib.hid hb1; clear hb1)
    | (go_at_call 31; refine (HPK.out w1 HB1.out).mono ?_; rintro e w2 ⟨A2, c2, rfl, hown2, hb2⟩; have HC2 := Lib.hid (Cells.of_own hown2); have HB2 := Lib.hid (HB1.out.trans (hb2.mono HB1.out.size)); clear hown2 hb2)
    | (go_at_call 33; refine (HSU.out w2 A2 c2 HC2.out HB2.out).mono ?_; rintro e w3 ⟨rfl, rfl⟩)
    | (go_at_call 32; refine (HLP.out w2 HB2.out).mono ?_; rintro e w4 ⟨A4, c4, rfl, ho4, hb4⟩; have HO4 := Lib.hid (ho4.le HB2.out.size); have HC4 := Lib.hid (HC2.out.below hb4 (Nat.le_refl _)); have HB4 := Lib.hid (HB2.out.trans (hb4.mono HB2.out.size)); clear ho4 hb4)
    | (at_builtin; refine wpList_appT w4 byteElem rfl (.tmp 43) (.tmp 44) rfl w.heap.size (.slice A4 (22 + s.size) c4) (22 + s.size) (byteCells HD) rfl HO4.out w2.heap.size A2 n c2 (byteCells P) rfl (by rw [byteCells_length, HN.out]) HC4.out (byteCells_one _) (by unfold maxLen; omega) (by omega) HB4.out.size ?_; intro A5 c5 w5 hap; have HAP := Lib.hid hap; clear hap))
  refine bodyPost_ret (results_tmp2 rfl _ _ _) rfl ?_
  refine ⟨A5, c5, rfl, ?_, HAP.out.below HB4.out HB4.out.size (fun k hk => (HO4.out.lt k hk).1)⟩
  have h := HAP.out.own
  unfold OwnY
  rw [byteCells_append]
  exact h
end Go.Proofs.YtaknladkodibaaaGreatDoor
/- Layer 22: what is put is taken; the example that goes there and back. -/
namespace Go.Proofs.YtaknladkodibaaaGreatDoor
open Go.RowKit CrcP FieldP
attribute [local go_sem ↓] Go.wp_at_zero Go.wp_at_succ

end Go.Proofs.YtaknladkodibaaaGreatDoor
/- Layer 22: a member's record, packed or streamed: the law. -/
namespace Go.Proofs.YtaknladkodibaaaGreatDoor
open Go.RowKit CrcP FieldP
attribute [local go_sem ↓] Go.wp_at_zero Go.wp_at_succ

/-- Bytes and an error are told. -/
def PuQ (w : World) (t : Int × List UInt8) (e : Ending) (w' : World) : Prop := ∃ A' c', e = .returned (.tuple #[.slice A' t.2.length c', .int .i64 t.1]) ∧ Bytes w' w'.heap.size A' t.2 ∧ Below w.heap.size w w'
def putR (lv : Int) (s : ByteArray) (bs : List UInt8) : Int × List UInt8 := if rightB s.data.toList = true then (0, recB lv s bs) else (6, [])
def strR (s : ByteArray) (ls : List PcV) : Int × List UInt8 := if rightB s.data.toList = true then (0, strB s ls) else (6, [])
theorem PuQ.no {w w' : World} {t : Int × List UInt8} (ht : t = (6, [])) (hb : Below w.heap.size w w') : PuQ w t (.returned (.tuple #[.slice none 0 0, .int .i64 6])) w' := by
  subst ht
  exact ⟨none, 0, rfl, Cells.nil _ _ _, hb⟩
theorem putR_no {lv : Int} {s : ByteArray} {bs : List UInt8} (h : rightB s.data.toList = false) : putR lv s bs = (6, []) := if_neg (by rw [h]; decide)
theorem strR_no {s : ByteArray} {ls : List PcV} (h : rightB s.data.toList = false) : strR s ls = (6, []) := if_neg (by rw [h]; decide)
theorem recPut_all (tg : Nat) (A : Option Addr) (l c : Nat) (bs : List UInt8) (s : ByteArray) (lv : Int) (w : World) (hT : Table w tg) (hW : Wid w) (hs : s.size ≤ maxLen) (hl : bs.length = l) (hm : l ≤ 32000) (hcap : l ≤ c) (hb : Bytes w w.heap.size A bs) :
    Calls Tryz.prog 12 #[.pointer (some ⟨tg, 0, none⟩), .string s, .slice A l c, .int .i64 lv] w (PuQ w (putR lv s bs)) := by
  cases hr : rightB s.data.toList with
  | false =>
    refine (recPut_no tg _ s lv w hs hr).mono ?_
    rintro e w' ⟨rfl, hb⟩
    exact PuQ.no (putR_no hr) hb
  | true =>
    refine (recPut_yes tg A l c bs s lv w hT hW hs hr hl hm hcap hb).mono ?_
    rintro e w' ⟨A', c', rfl, ho, hb⟩
    rw [show putR lv s bs = (0, recB lv s bs) from if_pos hr]
    exact ⟨A', c', rfl, ho.cells, hb⟩
theorem recStr_all (tg : Nat) (A : Option Addr) (l c : Nat) (ls : List PcV) (s : ByteArray) (w : World) (hT : Table w tg) (hW : Wid w) (hs : s.size ≤ maxLen) (hl : ls.length = l) (hm : l ≤ 1000) (hrw : RowsIn w A ls) (hall : ∀ x ∈ ls, x.1.length ≤ 65535) (hsum : sumP ls ≤ 65535) :
    Calls Tryz.prog 14 #[.pointer (some ⟨tg, 0, none⟩), .string s, .slice A l c] w (PuQ w (strR s ls)) := by
  cases hr : rightB s.data.toList with
  | false =>
    refine (recStr_no tg _ s w hs hr).mono ?_
    rintro e w' ⟨rfl, hb⟩
    exact PuQ.no (strR_no hr) hb
  | true =>
    refine (recStr_yes tg A l c ls s w hT hW hs hr hl hm hrw hall hsum).mono ?_
    rintro e w' ⟨A', c', rfl, ho, hb⟩
    rw [show strR s ls = (0, strB s ls) from if_pos hr]
    exact ⟨A', c', rfl, ho.cells, hb⟩
/-- All data of rows. -/
def datR (ls : List PcV) : List UInt8 := (ls.map (·.1)).flatten
theorem datR_up {ls : List PcV} {i : Nat} {x : PcV} (h : ls[i]? = some x) : datR (ls.take (i + 1)) = datR (ls.take i) ++ x.1 := by
  rw [datR, take_up h, List.map_append, List.flatten_append]
  simp [datR]
theorem sumP_few : ∀ (ls : List PcV) (m : Nat), (∀ x ∈ ls, x.1.length ≤ m) → sumP ls ≤ m * ls.length
  | [], m, _ => by simp [sumP]
  | x :: l, m, h => by
    have h1 := sumP_few l m (fun y hy => h y (by simp [hy]))
    have h2 := h x (by simp)
    simp only [sumP, List.map_cons, List.sum_cons, List.length_cons] at h1 ⊢
    rw [Nat.mul_add]
    omega
end Go.Proofs.YtaknladkodibaaaGreatDoor
/- Layer 26: what records take: the law. -/
namespace Go.Proofs.YtaknladkodibaaaGreatDoor
open Go.RowKit CrcP FieldP
attribute [local go_sem ↓] Go.wp_at_zero Go.wp_at_succ

theorem piece_takes {r : List UInt8} {rl : Nat} (h : r.length = rl) (hm : rl ≤ 1000) : (pieceB r).length = cutC (rl : Int) + 2 * partsC (cutC (rl : Int)) 65535 := by
  have hc : cutC (rl : Int) = rl := by unfold cutC; rw [if_neg (by omega), if_neg (by omega)]; omega
  rw [hc]
  unfold pieceB partsC
  by_cases h0 : rl = 0
  · rw [if_pos (List.eq_nil_of_length_eq_zero (by rw [h]; exact h0)), if_pos h0]
    simp; omega
  · rw [if_neg (fun e => h0 (by rw [← h, e]; rfl)), if_neg h0, List.length_append, putN_length, h, Nat.div_eq_of_lt (by omega)]
    omega
set_option maxRecDepth 100000 in
set_option maxHeartbeats 2000000 in
theorem sprec_law (s : ByteArray) (A : Option Addr) (l c : Nat) (ls : List PcV) (lv : Int) (w : World) (hW : Wid w) (hs : s.size ≤ maxLen) (hl : ls.length = l) (hm : l ≤ 9223372036854775807) (hr : RowsIn w A ls) :
    Calls Tryz.prog 8 #[.string s, .slice A l c, .int .i64 lv] w fun e w' => e = .returned (.bool true) ∧ Below w.heap.size w w' := by
  have hw0 := hW.1
  have HWI : Hid (∀ W, Below w.heap.size w W → Wid W) := fun W hB => hW.below hB hw0 (by have := hB.size; omega)
  clear hW
  unfold maxLen at hs
  by_cases h1 : 100 < s.size
  · have t0 : decide ((100 : Int) < (s.size : Int)) = true := decide_eq_true (by omega)
    clear hl hr h1
    go_enter Tryz.func8, Tryz.ntmps8
    go_wp2_with (go_at_call 23; refine (lives26_any _).mono ?_; rintro e w4 ⟨rfl, hb4⟩; have HB4 := Lib.hid hb4; clear hb4)
    go_ret
    exact ⟨rfl, HB4.out⟩
  have t0 : decide ((100 : Int) < (s.size : Int)) = false := decide_eq_false (by omega)
  by_cases h2 : 20 < l
  · have t1 : decide ((20 : Int) < (l : Int)) = true := decide_eq_true (by omega)
    clear hl hr h1 h2
    go_enter Tryz.func8, Tryz.ntmps8
    go_wp2_with (go_at_call 23; refine (lives26_any _).mono ?_; rintro e w4 ⟨rfl, hb4⟩; have HB4 := Lib.hid hb4; clear hb4)
    go_ret
    exact ⟨rfl, HB4.out⟩
  have t1 : decide ((20 : Int) < (l : Int)) = false := decide_eq_false (by omega)
  have hl20 : l ≤ 20 := by omega
  have hs100 : s.size ≤ 100 := by omega
  have hz := (zero_of_info tableInfo).1
  have HSZ := Lib.hid tableSize
  have HL := Lib.hid hl
  have HR := Lib.hid hr
  have hs3 : s.size ≤ maxLen := by unfold maxLen; omega
  clear hl hr h1 h2 hs
  obtain ⟨W3, hW3⟩ : ∃ W3, ((w.alloc (.cells #[.int .i64 0] 59)).alloc (.cells #[.int .i64 0] 59)).alloc (.cells #[.int .i64 0] 59) = W3 := ⟨_, rfl⟩
  obtain ⟨N, hN⟩ : ∃ N, w.heap.size = N := ⟨_, rfl⟩
  have hz3 : W3.heap.size = N + 3 := by rw [← hW3, ← hN]; simp
  have LX3 : Hid (Led W3 N 0) := by show Led _ _ _; rw [← hW3, ← hN]; exact (Box.alloc (Box.alloc (heap_alloc_new w _) _) _)
  have LY3 : Hid (Led W3 (N + 1) 0) := by show Led _ _ _; rw [← hW3, ← hN]; exact Box.alloc (by have h := heap_alloc_new (w.alloc (.cells #[.int .i64 0] 59)) (.cells #[.int .i64 0] 59); rw [World.size_alloc] at h; exact h) _
  have LZ3 : Hid (Led W3 (N + 1 + 1) 0) := by show Led _ _ _; rw [← hW3, ← hN]; have h := heap_alloc_new ((w.alloc (.cells #[.int .i64 0] 59)).alloc (.cells #[.int .i64 0] 59)) (.cells #[.int .i64 0] 59); rw [World.size_alloc, World.size_alloc] at h; exact h
  have HB3 : Hid (Below N w W3) := by show Below _ _ _; rw [← hW3, ← hN]; exact (((Below.refl _ w).alloc (Nat.le_refl _) _).alloc (by simp) _).alloc (by simp; omega) _
  have HNN := Lib.hid hN
  have HWW := Lib.hid hW3
  rw [hN] at hw0 HWI
  have HRB : Hid (∀ W, Below N w W → RowsIn W A ls) := fun W hW => HR.out.belowS (by rw [hN]; exact hW)
  have HRR : Hid (∀ x ∈ ls, Bytes w N x.2.1 x.1 ∧ x.1.length ≤ x.2.2) := by show ∀ x ∈ ls, _; rw [← hN]; exact HR.out.each
  clear hW3 hN
  go_enter Tryz.func8, Tryz.ntmps8
  rw [HNN.out]
  go_wp2_with fail
  rw [HWW.out, HNN.out]
  refine (stream26_any (N + 1) 0 s W3 LY3.out (by omega) (by omega)).mono ?_
  rintro e w4 ⟨rfl, hl4, hm4⟩
  have LY4 := Lib.hid hl4
  have LX4 : Hid (Led w4 N 0) := Box.mod LX3.out hm4 (fun h => by have h' : N = N + 1 := h; omega)
  have LZ4 : Hid (Led w4 (N + 1 + 1) 0) := Box.mod LZ3.out hm4 (fun h => by have h' : N + 1 + 1 = N + 1 := h; omega)
  have HB4 := Lib.hid (hm4.below HB3.out (by omega) (fun k hk => by have h' : k = N + 1 := hk; omega))
  have HZ4 : Hid (N + 3 ≤ w4.heap.size) := by show _ ≤ _; have := hm4.size; omega
  clear hl4 hm4
  go_wp2
  go_loopg [7, 11] l (fun gk sa si wr => ∃ (i m c' : Nat) (A' : Option Addr), i + gk = l ∧ si = .int .i64 (i : Int) ∧ sa = .slice A' m c' ∧ m ≤ 1000 * i ∧ m = sumP (ls.take i) ∧ (∀ x ∈ ls.take i, x.1.length ≤ 1000) ∧ OwnB wr (N + 3) 5 (.slice A' m c') m (datR (ls.take i)) ∧ Led wr N 0 ∧ Led wr (N + 1) (0 + (22 + 22 + s.size) + (pcsB (ls.take i)).length) ∧ Led wr (N + 1 + 1) 0 ∧ Below N w wr ∧ N + 3 ≤ wr.heap.size)
  case atStart => exact ⟨0, 0, 0, none, by omega, rfl, rfl, by omega, by simp [sumP], by simp, World.ownsRow_nil _ _ _ _, LX4.out, LY4.out, LZ4.out, HB4.out, HZ4.out⟩
  case round =>
    obtain ⟨i, m, c', A', hi, rfl, rfl, hm3, hms, hall, hown, hx, hy, hz', hbel, hsz⟩ := hrel
    have HMS := Lib.hid hms
    have HA := Lib.hid hall
    have HO := Lib.hid hown
    have LX := Lib.hid hx
    have LY := Lib.hid hy
    have LZ := Lib.hid hz'
    have HB := Lib.hid hbel
    have HSZ2 := Lib.hid hsz
    have hpcl := pcsB_len (ls.take i)
    have hpc2 : (pcsB (ls.take i)).length ≤ 25000 := by
      have h2 : (ls.take i).length ≤ 20 := by rw [List.length_take]; omega
      omega
    clear hms hall hown hx hy hz' hbel hsz hpcl
    by_cases hil : i < l
    · obtain ⟨x, hx⟩ : ∃ x, ls[i]? = some x := ⟨_, List.getElem?_eq_getElem (by rw [HL.out]; exact hil)⟩
      have hrr := (HRB.out wr HB.out).row
      obtain ⟨b, o, rfl, hbB, hcc⟩ := hrr (by rw [List.length_map, HL.out]; omega)
      have ci : wr.cell? ⟨b, o + i, none⟩ = some (pcC x) := hcc i _ (by rw [List.getElem?_map, hx]; rfl)
      have hex := HRR.out x (List.mem_of_getElem? hx)
      have HU := Lib.hid (sumP_up hx)
      have HTU := Lib.hid (take_up hx)
      have HPU := Lib.hid (datR_up hx)
      have HCU := Lib.hid (pcsB_up hx)
      obtain ⟨r, A2, k2⟩ := x
      have ci2 : wr.cell? ⟨b, o + i, none⟩ = some (.slice A2 r.length k2) := ci
      have HBR : Hid (Bytes wr N A2 r) := hex.1.below HB.out (Nat.le_refl _)
      obtain ⟨rl, hrl⟩ : ∃ rl, r.length = rl := ⟨_, rfl⟩
      have HRL := Lib.hid hrl
      rw [hrl] at ci2
      have HCI : Hid (∀ V, Below N w V → V.cell? ⟨b, o + i, none⟩ = some (.slice A2 rl k2)) := by
        intro V hV
        have h2 := (HRB.out V hV).row
        obtain ⟨b', o', e, _, hcc'⟩ := h2 (by rw [List.length_map, HL.out]; omega)
        cases e
        have h3 : V.cell? ⟨b, o + i, none⟩ = some (pcC (r, A2, k2)) := hcc' i _ (by rw [List.getElem?_map, hx]; rfl)
        rw [← hrl]
        exact h3
      clear hcc ci hx hbB hrl hrr hex
      by_cases h3 : 1000 < rl
      · have u1 : (1000 : Int) < (rl : Int) := by omega
        go_wp2_with (go_at_call 23; refine (lives26_any _).mono ?_; rintro e w5 ⟨rfl, hb5⟩; have HB5 := Lib.hid (HB.out.trans (hb5.mono (by have := HSZ2.out; omega))); clear hb5)
        go_ret
        exact ⟨rfl, HB5.out⟩
      · have u1 : ¬ (1000 : Int) < (rl : Int) := by omega
        have HPT := Lib.hid (piece_takes HRL.out (by omega))
        go_wp2_with (first
          | (at_builtin; refine wpList_app wr byteElem rfl (.tmp 43) (.tmp 47) rfl (N + 3) (.slice A' m c') m (byteCells (datR (ls.take i))) rfl HO.out N A2 rl k2 (byteCells r) rfl (by rw [byteCells_length, HRL.out, Nat.mul_one]) HBR.out (byteCells_one _) (by unfold maxLen; omega) (by omega) HSZ2.out ?_; intro A6 c6 w6 hA; have HA6 := Lib.hid hA.own; have hmod := Mod.of_grown hA.grow; have LX6 : Hid (Led w6 N 0) := Box.mod LX.out hmod (fun h => by have := own_base HO.out _ h; omega); have LY6 := Lib.hid (show Led w6 (N + 1) _ from Box.mod LY.out hmod (fun h => by have := own_base HO.out _ h; omega)); have LZ6 : Hid (Led w6 (N + 1 + 1) 0) := Box.mod LZ.out hmod (fun h => by have := own_base HO.out _ h; omega); have HB6 := Lib.hid (hA.below HB.out (by have := HSZ2.out; omega) (fun k hk => by have := own_base HO.out k hk; omega)); have HZ6 : Hid (N + 3 ≤ w6.heap.size) := (by show _ ≤ _; have := hA.grow.size; have := HSZ2.out; omega); have ci6 := HCI.out w6 HB6.out; clear hA hmod)
          | (go_at_call 25; refine (more26_any (N + 1) _ (rl : Int) w6 LY6.out (by omega)).mono ?_; rintro e w7 ⟨rfl, hl7, hm7⟩; have LY7 := Lib.hid hl7; have LX7 : Hid (Led w7 N 0) := Box.mod LX6.out hm7 (fun h => by have h' : N = N + 1 := h; omega); have LZ7 : Hid (Led w7 (N + 1 + 1) 0) := Box.mod LZ6.out hm7 (fun h => by have h' : N + 1 + 1 = N + 1 := h; omega); have HB7 := Lib.hid (hm7.below HB6.out (by have := HZ6.out; omega) (fun k hk => by have h' : k = N + 1 := hk; omega)); have HZ7 : Hid (N + 3 ≤ w7.heap.size) := (by show _ ≤ _; have := hm7.size; have := HZ6.out; omega); have HA7 := Lib.hid (own_keep HA6.out hm7 (fun k hk h => by have h1 := own_base HA6.out k hk; have h' : k = N + 1 := h; omega)); clear hl7 hm7))
        go_roundg (gk - 1)
        case measure => omega
        case rel =>
          refine ⟨i + 1, m + rl, c6, A6, by omega, by go_num, rfl, by omega, by rw [HU.out, ← HMS.out, ← HRL.out], fun y hy => ?_, ?_, LX7.out, ?_, LZ7.out, HB7.out, HZ7.out⟩
          · rw [HTU.out] at hy
            rcases List.mem_append.1 hy with h | h
            · exact HA.out y h
            · obtain rfl : y = (r, A2, k2) := by simpa using h
              show r.length ≤ 1000
              rw [HRL.out]
              omega
          · rw [HPU.out]
            unfold OwnB
            rw [byteCells_append]
            exact HA7.out
          · have h := LY7.out
            rw [HCU.out, List.length_append]
            show Led w7 (N + 1) (0 + (22 + 22 + s.size) + ((pcsB (ls.take i)).length + (pieceB r).length))
            rw [HPT.out, ← Nat.add_assoc]
            exact h
    · obtain rfl : i = l := by omega
      have htl : ls.take i = ls := by rw [← HL.out, List.take_length]
      have hall : ∀ x ∈ ls, x.1.length ≤ 1000 := fun x hx => HA.out x (by rw [htl]; exact hx)
      have hsum : sumP ls ≤ 20000 := by
        have h1 := sumP_few ls 1000 hall
        have h2 := HL.out
        omega
      have hm20 : m ≤ 20000 := by rw [HMS.out, htl]; exact hsum
      have HML : Hid ((datR ls).length = m) := by have h1 := HO.out.1; rw [htl, byteCells_length, Nat.mul_one] at h1; exact h1
      have hcm : cutC (m : Int) = m := by unfold cutC; rw [if_neg (by omega), if_neg (by omega)]; omega
      have HCP : Hid (m ≤ c') := capS (OwnT.of HO.out)
      obtain ⟨xn, hxn⟩ : ∃ xn, 0 + (22 + s.size + cutC (m : Int)) = xn := ⟨_, rfl⟩
      obtain ⟨yn, hyn⟩ : ∃ yn, 0 + (22 + 22 + s.size) + (pcsB (ls.take i)).length = yn := ⟨_, rfl⟩
      obtain ⟨zn, hzn⟩ : ∃ zn, 0 + (22 + s.size) = zn := ⟨_, rfl⟩
      have LYY : Hid (Led wr (N + 1) yn) := by show Led _ _ _; rw [← hyn]; exact LY.out
      have HO' : Hid (OwnB wr (N + 3) 5 (.slice A' m c') m (datR ls)) := by show OwnB _ _ _ _ _ _; rw [← htl]; exact HO.out
      have HXN := Lib.hid hxn
      have HZN := Lib.hid hzn
      obtain ⟨ds, hds⟩ : ∃ ds, datR ls = ds := ⟨_, rfl⟩
      rw [hds] at HML HO'
      have HP1 : Hid (∀ (tg : Nat) W, Table W tg → Below N w W → Bytes W W.heap.size A' ds → _) := fun tg W hT hW hb => recPut_all tg A' m c' ds s lv W hT (HWI.out W hW) hs3 HML.out (by omega) HCP.out hb
      have HP2 : Hid (∀ (tg : Nat) W, Table W tg → Below N w W → _) := fun tg W hT hW => recStr_all tg A i c ls s W hT (HWI.out W hW) hs3 HL.out (by omega) (HRB.out W hW) (fun x hx => Nat.le_trans (hall x hx) (by omega)) (by omega)
      rw [htl] at hyn
      cases hr : rightB s.data.toList with
      | false =>
        have HP3 := Lib.hid (fun g W => stPut_no g s W hs3 hr)
        rw [putR_no hr] at HP1
        rw [strR_no hr] at HP2
        unfold PuQ at HP1 HP2
        dsimp only at HP1 HP2
        clear hr hds hyn hxn hzn htl hall hsum HO LY HA hcm
        go_wp2_with (first
          | (go_at_call 26; refine (put26_any N 0 s (m : Int) wr LX.out (by omega) (by omega)).mono ?_; rintro e w5 ⟨rfl, hl5, hm5⟩; rw [HXN.out] at hl5; have LX5 := Lib.hid hl5; have LY5 := Lib.hid (show Led w5 (N + 1) yn from Box.mod LYY.out hm5 (fun h => by have h' : N + 1 = N := h; omega)); have LZ5 : Hid (Led w5 (N + 1 + 1) 0) := Box.mod LZ.out hm5 (fun h => by have h' : N + 1 + 1 = N := h; omega); have HB5 := Lib.hid (hm5.below HB.out (by have := HSZ2.out; omega) (fun k hk => by have h' : k = N := hk; omega)); have HO5 := Lib.hid (own_keep HO'.out hm5 (fun k hk h => by have h1 := own_base HO'.out k hk; have h' : k = N := h; omega)); have HZ5 : Hid (N + 3 ≤ w5.heap.size) := (by show _ ≤ _; have := hm5.size; have := HSZ2.out; omega); clear hl5 hm5)
          | (go_at_call 27; refine (delete26_any (N + 1 + 1) 0 s w5 LZ5.out (by omega) (by omega)).mono ?_; rintro e w6 ⟨rfl, hl6, hm6⟩; rw [HZN.out] at hl6; have LZ6 := Lib.hid hl6; have LX6 := Lib.hid (show Led w6 N xn from Box.mod LX5.out hm6 (fun h => by have h' : N = N + 1 + 1 := h; omega)); have LY6 := Lib.hid (show Led w6 (N + 1) yn from Box.mod LY5.out hm6 (fun h => by have h' : N + 1 = N + 1 + 1 := h; omega)); have HB6 := Lib.hid (hm6.below HB5.out (by have := HZ5.out; omega) (fun k hk => by have h' : k = N + 1 + 1 := hk; omega)); have HO6 := Lib.hid (own_keep HO5.out hm6 (fun k hk h => by have h1 := own_base HO5.out k hk; have h' : k = N + 1 + 1 := h; omega)); have HZ6 : Hid (N + 3 ≤ w6.heap.size) := (by show _ ≤ _; have := hm6.size; have := HZ5.out; omega); clear hl6 hm6))
        refine (make_any _).mono ?_
        rintro e w7 ⟨rfl, hb⟩
        have HG := Lib.hid (heap_alloc_last w7 (.cells (Array.replicate 256 (.int .u32 0)) 28))
        have HB67 := Lib.hid hb
        clear hb
        go_wp2_with (refine wpList_store_row rfl 28 _ _ rfl w7.heap.size tabCells rfl rfl 28 _ HG.out HSZ.out (by rw [Array.size_replicate, tabCells_size]) tabCells_one ?_; rw [World.setRow_alloc_new]; have HTB := Lib.hid (table_new w7); have HB68 := Lib.hid (HB67.out.alloc HB67.out.size (.cells tabCells 28)); generalize w7.alloc (.cells tabCells 28) = w8 at *)
        clear hz HG HSZ HB67
        have h36 := HZ6.out
        have LX8 := Lib.hid (Box.below LX6.out HB68.out (by omega))
        have LY8 := Lib.hid (Box.below LY6.out HB68.out (by omega))
        have LZ8 := Lib.hid (Box.below LZ6.out HB68.out (by omega))
        have HB8 := Lib.hid (HB6.out.trans (HB68.out.mono (by omega)))
        have HC8 := Lib.hid ((Cells.of_own HO6.out).below HB68.out (Nat.le_refl _))
        have HZ8 : Hid (N + 3 ≤ w8.heap.size) := by show _ ≤ _; have := HB68.out.size; omega
        refine (HP1.out _ w8 HTB.out HB8.out (HC8.out.more (by have := HB68.out.size; omega))).mono ?_
        rintro e w9 ⟨A9, c9, rfl, _, hb9⟩
        have HT9 := Lib.hid (HTB.out.below hb9 HTB.out.lt)
        have HB9 := Lib.hid (HB8.out.trans (hb9.mono (by have := HZ8.out; omega)))
        clear hb9
        go_wp2_with (first
          | (go_at_call 14; refine (HP2.out _ w9 HT9.out HB9.out).mono ?_; rintro e w10 ⟨A10, c10, rfl, _, hb10⟩; have HB10 := Lib.hid (HB9.out.trans (hb10.mono (by have := HB9.out.size; rw [HNN.out] at this; exact this))); clear hb10)
          | (go_at_call 21; refine (HP3.out _ w10).mono ?_; rintro e w11 ⟨rfl, hb11⟩; have HB11 := Lib.hid (HB10.out.trans (hb11.mono (by have := HB10.out.size; rw [HNN.out] at this; exact this))); clear hb11)
          | (go_at_call 23; refine (lives26_any w11).mono ?_; rintro e w12 ⟨rfl, hb12⟩; have HB12 := Lib.hid (HB11.out.trans (hb12.mono (by have := HB11.out.size; rw [HNN.out] at this; exact this))); clear hb12))
        go_ret
        exact ⟨rfl, HB12.out⟩
      | true =>
        have HP3 := Lib.hid (fun g W hT => stPut_yes g s W hs3 hr hT)
        rw [show putR lv s ds = (0, recB lv s ds) from if_pos hr] at HP1
        rw [show strR s ls = (0, strB s ls) from if_pos hr] at HP2
        unfold PuQ at HP1 HP2
        dsimp only at HP1 HP2
        obtain ⟨n1, hn1⟩ : ∃ n, (recB lv s ds).length = n := ⟨_, rfl⟩
        have hn1x : n1 ≤ xn := by
          obtain ⟨mm, _, hc⟩ := pkM_two lv ds
          have h1 := recB_len lv s ds
          have h2 := HML.out
          omega
        have hn2 : (strB s ls).length = yn := by
          rw [strB_len, ← hyn]
          unfold arP
          rw [List.length_append]
          simp only [List.length_cons, List.length_nil]
          omega
        rw [hn1] at HP1
        rw [hn2] at HP2
        have u1 : decide ((n1 : Int) ≤ (xn : Int)) = true := decide_eq_true (by omega)
        have u1n : decide (n1 ≤ xn) = true := decide_eq_true hn1x
        have u3 : decide ((9 : Int) + (s.size : Int) ≤ (zn : Int)) = true := decide_eq_true (by omega)
        have u3n : decide (9 + s.size ≤ zn) = true := decide_eq_true (by omega)
        clear hr hds hyn hxn hzn htl hall hsum HO LY HA hcm hn1 hn2
        go_wp2_with (first
          | (go_at_call 26; refine (put26_any N 0 s (m : Int) wr LX.out (by omega) (by omega)).mono ?_; rintro e w5 ⟨rfl, hl5, hm5⟩; rw [HXN.out] at hl5; have LX5 := Lib.hid hl5; have LY5 := Lib.hid (show Led w5 (N + 1) yn from Box.mod LYY.out hm5 (fun h => by have h' : N + 1 = N := h; omega)); have LZ5 : Hid (Led w5 (N + 1 + 1) 0) := Box.mod LZ.out hm5 (fun h => by have h' : N + 1 + 1 = N := h; omega); have HB5 := Lib.hid (hm5.below HB.out (by have := HSZ2.out; omega) (fun k hk => by have h' : k = N := hk; omega)); have HO5 := Lib.hid (own_keep HO'.out hm5 (fun k hk h => by have h1 := own_base HO'.out k hk; have h' : k = N := h; omega)); have HZ5 : Hid (N + 3 ≤ w5.heap.size) := (by show _ ≤ _; have := hm5.size; have := HSZ2.out; omega); clear hl5 hm5)
          | (go_at_call 27; refine (delete26_any (N + 1 + 1) 0 s w5 LZ5.out (by omega) (by omega)).mono ?_; rintro e w6 ⟨rfl, hl6, hm6⟩; rw [HZN.out] at hl6; have LZ6 := Lib.hid hl6; have LX6 := Lib.hid (show Led w6 N xn from Box.mod LX5.out hm6 (fun h => by have h' : N = N + 1 + 1 := h; omega)); have LY6 := Lib.hid (show Led w6 (N + 1) yn from Box.mod LY5.out hm6 (fun h => by have h' : N + 1 = N + 1 + 1 := h; omega)); have HB6 := Lib.hid (hm6.below HB5.out (by have := HZ5.out; omega) (fun k hk => by have h' : k = N + 1 + 1 := hk; omega)); have HO6 := Lib.hid (own_keep HO5.out hm6 (fun k hk h => by have h1 := own_base HO5.out k hk; have h' : k = N + 1 + 1 := h; omega)); have HZ6 : Hid (N + 3 ≤ w6.heap.size) := (by show _ ≤ _; have := hm6.size; have := HZ5.out; omega); clear hl6 hm6))
        refine (make_any _).mono ?_
        rintro e w7 ⟨rfl, hb⟩
        have HG := Lib.hid (heap_alloc_last w7 (.cells (Array.replicate 256 (.int .u32 0)) 28))
        have HB67 := Lib.hid hb
        clear hb
        go_wp2_with (refine wpList_store_row rfl 28 _ _ rfl w7.heap.size tabCells rfl rfl 28 _ HG.out HSZ.out (by rw [Array.size_replicate, tabCells_size]) tabCells_one ?_; rw [World.setRow_alloc_new]; have HTB := Lib.hid (table_new w7); have HB68 := Lib.hid (HB67.out.alloc HB67.out.size (.cells tabCells 28)); generalize w7.alloc (.cells tabCells 28) = w8 at *)
        clear hz HG HSZ HB67
        have h36 := HZ6.out
        have LX8 := Lib.hid (Box.below LX6.out HB68.out (by omega))
        have LY8 := Lib.hid (Box.below LY6.out HB68.out (by omega))
        have LZ8 := Lib.hid (Box.below LZ6.out HB68.out (by omega))
        have HB8 := Lib.hid (HB6.out.trans (HB68.out.mono (by omega)))
        have HC8 := Lib.hid ((Cells.of_own HO6.out).below HB68.out (Nat.le_refl _))
        have HZ8 : Hid (N + 3 ≤ w8.heap.size) := by show _ ≤ _; have := HB68.out.size; omega
        refine (HP1.out _ w8 HTB.out HB8.out (HC8.out.more (by have := HB68.out.size; omega))).mono ?_
        rintro e w9 ⟨A9, c9, rfl, _, hb9⟩
        have h38 := HZ8.out
        have HT9 := Lib.hid (HTB.out.below hb9 HTB.out.lt)
        have LX9 := Lib.hid (Box.below LX8.out hb9 (by omega))
        have LY9 := Lib.hid (Box.below LY8.out hb9 (by omega))
        have LZ9 := Lib.hid (Box.below LZ8.out hb9 (by omega))
        have HB9 := Lib.hid (HB8.out.trans (hb9.mono (by omega)))
        have HZ9 : Hid (N + 3 ≤ w9.heap.size) := by show _ ≤ _; have := hb9.size; omega
        clear hb9
        go_wp2_with (first
          | (go_at_call 14; refine (HP2.out _ w9 HT9.out HB9.out).mono ?_; rintro e w10 ⟨A10, c10, rfl, _, hb10⟩; have h39 := HZ9.out; have HT10 := Lib.hid (HT9.out.below hb10 HT9.out.lt); have LX10 := Lib.hid (Box.below LX9.out hb10 (by omega)); have LY10 := Lib.hid (Box.below LY9.out hb10 (by omega)); have LZ10 := Lib.hid (Box.below LZ9.out hb10 (by omega)); have HB10 := Lib.hid (HB9.out.trans (hb10.mono (by omega))); have HZ10 : Hid (N + 3 ≤ w10.heap.size) := (by show _ ≤ _; have := hb10.size; omega); clear hb10)
          | (go_at_call 21; refine (HP3.out _ w10 HT10.out).mono ?_; rintro e w11 ⟨A11, c11, rfl, _, hb11⟩; have h310 := HZ10.out; have LX11 := Lib.hid (show Led w11 N xn from Box.below LX10.out hb11 (by omega)); have LY11 := Lib.hid (show Led w11 (N + 1) yn from Box.below LY10.out hb11 (by omega)); have LZ11 := Lib.hid (show Led w11 (N + 1 + 1) zn from Box.below LZ10.out hb11 (by omega)); have HB11 := Lib.hid (HB10.out.trans (hb11.mono (by omega))); have HZ11 : Hid (N + 3 ≤ w11.heap.size) := (by show _ ≤ _; have := hb11.size; omega); clear hb11)
          | (go_at_call 28; refine (issued_any N xn w11 LX11.out).mono ?_; clear LX11; rintro e w' ⟨rfl, rfl⟩)
          | (go_at_call 28; refine (issued_any (N + 1) yn w11 LY11.out).mono ?_; clear LY11; rintro e w' ⟨rfl, rfl⟩)
          | (go_at_call 28; refine (issued_any (N + 1 + 1) zn w11 LZ11.out).mono ?_; clear LZ11; rintro e w' ⟨rfl, rfl⟩)
          | (go_at_call 23; refine (lives26_any w11).mono ?_; rintro e w12 ⟨rfl, hb12⟩; have HB12 := Lib.hid (HB11.out.trans (hb12.mono (by have := HZ11.out; omega))); clear hb12))
        go_ret
        exact ⟨rfl, HB12.out⟩
end Go.Proofs.YtaknladkodibaaaGreatDoor
