/- Layer 13: tokens are taken. -/
import Derived.Test.YtaknladkodibaaaGreatDoorMgQ34948
import Derived.Test.YtaknladkodibaaaGreatDoorMgQ34927
import Derived.WalkMore
import Derived.Test.YtaknladkodibaaaGreatDoorMgQ34938
import Derived.Test.YtaknladkodibaaaGreatDoorMgQ34947
import Derived.Test.YtaknladkodibaaaGreatDoorMgQ34905
import Derived.Test.YtaknladkodibaaaGreatDoorMgQ34946
import Derived.Test.YtaknladkodibaaaGreatDoorMgQ34923
import Derived.Test.YtaknladkodibaaaGreatDoorMgQ34945
import Derived.Deep.RegionLaw
import Derived.Deep.RegionHeld3
import Derived.Test.YtaknladkodibaaaGreatDoorMgQ349SBytesIn
import Derived.Test.YtaknladkodibaaaGreatDoorMgQ34936
import Derived.Test.YtaknladkodibaaaGreatDoorMgQ34914
import Derived.Test.YtaknladkodibaaaGreatDoorMgQ34942
import Derived.Test.YtaknladkodibaaaGreatDoorMgQ349SRcRf
namespace Go.Proofs.YtaknladkodibaaaGreatDoor
open Go.RowKit BitsP SymP

/-- A token's cells. -/
def tcC (t : Tk) : List Value := [.int .u8 (t.1.toNat : Int), .int .i64 (t.2.1 : Int), .int .i64 (t.2.2 : Int)]
/-- What the loop keeps: the tokens, the reader, the alphabets. -/
structure TsI (w W : World) (r base : Nat) (S : Nat → Prop) (bs : List UInt8) (p ga gb : Nat) (v : Value) (ts : List Tk) : Prop where
  row : W.ownsRow (w.heap.size + 1) 164 3 v ts.length (ts.flatMap tcC)
  rd : RdS W r base S bs p
  mod : Mod (oneB r) w W
  box : W.heap[w.heap.size]? = some (.cells (alC (.pointer (some ⟨ga, 0, none⟩)) 257 (.pointer (some ⟨gb, 0, none⟩)) 0) 251 (0, 0))
section
variable {w W W' : World} {r base p p' ga gb : Nat} {S : Nat → Prop} {bs : List UInt8} {v v' : Value} {ts ts' : List Tk}
theorem TsI.part (h : TsI w W r base S bs p ga gb v ts) (hr : r < w.heap.size) (hm : Mod (oneB r) W W') (hrd : RdS W' r base S bs p') : TsI w W' r base S bs p' ga gb v ts :=
  ⟨own_keep h.row hm (fun k hk hs => by have h2 : k = r := hs; have := own_base h.row k hk; omega), hrd, h.mod.then_ hm, hm.keep h.box (fun hs => by have h2 : w.heap.size = r := hs; omega)⟩
theorem TsI.below (h : TsI w W r base S bs p ga gb v ts) (hb : Below W.heap.size W W') : TsI w W' r base S bs p ga gb v ts :=
  ⟨own_keep h.row (Mod.of_below hb) (fun _ _ h => h), h.rd.keep (Mod.of_below hb) (fun _ _ h => h), h.mod.then_ ((Mod.of_below hb).mono fun _ h => h.elim), (hb.block _ (Array.getElem?_eq_some_iff.1 h.box).1).trans h.box⟩
/-- A block that is none of these changes. -/
theorem TsI.other {g : Nat} (h : TsI w W r base S bs p ga gb v ts) (hSL : ∀ k, S k → k < w.heap.size) (hg : w.heap.size < g) (hv : v.ownBlock ≠ some g) (hm : Mod (oneB g) W W') : TsI w W' r base S bs p ga gb v ts :=
  ⟨own_keep h.row hm (fun k hk hs => by have h2 : k = g := hs; exact hv (h2 ▸ hk)), h.rd.keep hm (fun k hk hs => by have h2 : k = g := hs; have := hSL k hk; omega), h.mod.trans hm (fun k hs => .inr (by have h2 : k = g := hs; omega)), hm.keep h.box (fun hs => by have h2 : w.heap.size = g := hs; omega)⟩
theorem TsI.app {m : Nat} {xs : List Value} (h : TsI w W r base S bs p ga gb v ts) (hSL : ∀ k, S k → k < w.heap.size) (ha : App W (w.heap.size + 1) 164 3 v m xs W' v') (hm : m = ts'.length) (hx : xs = ts'.flatMap tcC) : TsI w W' r base S bs p ga gb v' ts' := by
  subst hm hx
  exact ⟨ha.own, h.rd.keep (Mod.of_app ha) (fun k hk hs => by have := hSL k hk; have := own_base h.row k hs; omega), h.mod.trans (Mod.of_app ha) (fun k hk => .inr (by have := own_base h.row k hk; omega)), (Mod.of_app ha).keep h.box (fun hk => by have := own_base h.row _ hk; omega)⟩
end
/-- A row in memory. -/
def RowB (W : World) (R : Nat) (c1 c2 : Nat × Nat × Nat) (m : Bool) : Prop := W.heap[R]? = some (.cells #[.int .i64 (c1.1 : Int), .int .i64 (c1.2.1 : Int), .int .u32 (c1.2.2 : Int), .int .i64 (c2.1 : Int), .int .i64 (c2.2.1 : Int), .int .u32 (c2.2.2 : Int), .bool m] 168 (0, 0))
theorem RowB.first {W : World} {R : Nat} {c1 c2 : Nat × Nat × Nat} {m : Bool} (h : RowB W R c1 c2 m) (c : Nat × Nat × Nat) : RowB (((W.setCell ⟨R, 0, none⟩ (.int .i64 (c.1 : Int))).setCell ⟨R, 1, none⟩ (.int .i64 (c.2.1 : Int))).setCell ⟨R, 2, none⟩ (.int .u32 (c.2.2 : Int))) R c c2 m :=
  heap_setCell_same _ R 2 _ _ _ (heap_setCell_same _ R 1 _ _ _ (heap_setCell_same W R 0 _ _ _ h))
theorem RowB.second {W : World} {R : Nat} {c1 c2 : Nat × Nat × Nat} {m : Bool} (h : RowB W R c1 c2 m) (c : Nat × Nat × Nat) : RowB (((W.setCell ⟨R, 3, none⟩ (.int .i64 (c.1 : Int))).setCell ⟨R, 4, none⟩ (.int .i64 (c.2.1 : Int))).setCell ⟨R, 5, none⟩ (.int .u32 (c.2.2 : Int))) R c1 c m :=
  heap_setCell_same _ R 5 _ _ _ (heap_setCell_same _ R 4 _ _ _ (heap_setCell_same W R 3 _ _ _ h))
end Go.Proofs.YtaknladkodibaaaGreatDoor
/- Layer 13: tokens of bytes in memory; a fresh writer. -/
namespace Go.Proofs.YtaknladkodibaaaGreatDoor
open Go.RowKit BitsP SymP

theorem toksOf_tk {w : World} {A : Option Addr} {ts : List Tk} (h : ∀ t ∈ ts, okT t) (hc : Cells w w.heap.size A (ts.map tkC).flatten) : ToksOf w A ts.length ts := by
  refine ⟨h, fun k t ht => ?_, .inl rfl⟩
  have c0 := code_at (tkC_len ts) (j := 0) ht rfl
  have c1 := code_at (tkC_len ts) (j := 1) ht rfl
  have c2 := code_at (tkC_len ts) (j := 2) ht rfl
  obtain ⟨b, o, h1, h2, h3⟩ := hc (by have := (List.getElem?_eq_some_iff.1 c0).1; omega)
  exact ⟨b, o, h1, h2, h3 _ _ c0, by have h4 := h3 _ _ c1; rw [← Nat.add_assoc] at h4; exact h4, by have h4 := h3 _ _ c2; rw [← Nat.add_assoc] at h4; exact h4⟩
end Go.Proofs.YtaknladkodibaaaGreatDoor
/- Layer 9: the reference's Put. -/
namespace Go.Proofs.YtaknladkodibaaaGreatDoor
open Go.RowKit BitsP
attribute [local go_sem ↓] Go.wp_at_zero Go.wp_at_succ

theorem own_leP {w : World} {base base' : Nat} {e : TypeId} {size n : Nat} {v : Value} {xs : List Value} (h : w.ownsRow base e size v n xs) (hb : base' ≤ base) : w.ownsRow base' e size v n xs := by
  obtain ⟨h1, h2⟩ := h
  refine ⟨h1, ?_⟩
  rcases h2 with h2 | ⟨g, c, cur, hv, hg, h3⟩
  · exact .inl h2
  · exact .inr ⟨g, c, cur, hv, Nat.le_trans hb hg, h3⟩
end Go.Proofs.YtaknladkodibaaaGreatDoor
/- Layer 13: the reference's bits of a symbol, and what is behind it. -/
namespace Go.Proofs.YtaknladkodibaaaGreatDoor
open Go.RowKit BitsP SymP
attribute [local go_sem ↓] Go.wp_at_zero Go.wp_at_succ

end Go.Proofs.YtaknladkodibaaaGreatDoor
/- Layer 13: the reference's Put. -/
namespace Go.Proofs.YtaknladkodibaaaGreatDoor
open Go.RowKit BitsP SymP
attribute [local go_sem ↓] Go.wp_at_zero Go.wp_at_succ

end Go.Proofs.YtaknladkodibaaaGreatDoor
/- Layer 14: a payload is made. -/
namespace Go.Proofs.YtaknladkodibaaaGreatDoor
open Go.RowKit BitsP SymP
attribute [local go_sem ↓] Go.wp_at_zero Go.wp_at_succ

/-- What a payload is packed to, and what it is: method and bytes. -/
def pkB (lv : Int) (bs : List UInt8) : List UInt8 := pack (blkB (toks bs lv 0))
def pkM (lv : Int) (bs : List UInt8) : Int × List UInt8 := if lv < 0 then (0, bs) else if (pkB lv bs).length < bs.length then (1, pkB lv bs) else (0, bs)
theorem tkAt_wr {w : World} {A : Option Addr} {k q : Nat} {y l d : Int} (h : TkAt w A k y l d) (hq : w.heap[q]? = some (.cells zeroWr 114 (0, 0))) : ∀ a, A = some a → a.block ≠ q := fun a ha he => by
  obtain ⟨b, o, h1, _, h3, _⟩ := h
  rw [h1] at ha
  cases ha
  have hb : b = q := he
  subst hb
  rw [show w.cell? ⟨b, o + k * 3, none⟩ = zeroWr[o + k * 3]? from cell_of_row w b (o + k * 3) _ _ _ hq] at h3
  generalize o + k * 3 = m at h3
  match m, h3 with
  | 0, h3 => simp [zeroWr] at h3
  | 1, h3 => simp [zeroWr] at h3
  | 2, h3 => simp [zeroWr] at h3
  | m + 3, h3 => simp [zeroWr] at h3
set_option maxRecDepth 100000 in
set_option maxHeartbeats 1000000 in
theorem pack14_any (A : Option Addr) (l c : Nat) (bs : List UInt8) (lv : Int) (w : World) (hl : bs.length = l) (hm : l ≤ 32000) (hcap : l ≤ c) (hb : Bytes w w.heap.size A bs) :
    Calls Tryz.prog 31 #[.slice A l c, .int .i64 lv] w fun e w' => ∃ A' c', e = .returned (.tuple #[.int .i64 (pkM lv bs).1, .slice A' (pkM lv bs).2.length c', .int .i64 0]) ∧ OwnB w' w.heap.size 5 (.slice A' (pkM lv bs).2.length c') (pkM lv bs).2.length (pkM lv bs).2 ∧ Below w.heap.size w w' := by
  have t0 : decide ((65536 : Int) < (l : Int)) = false := decide_eq_false (by omega)
  have HLL := Lib.hid hl
  by_cases hlv : lv < 0
  · have HE : Hid (pkM lv bs = (0, bs)) := by show _ = _; unfold pkM; rw [if_pos hlv]
    have HC := Lib.hid (clone_any A l c w.heap.size bs w hl (by omega) (Nat.le_refl _) hb)
    have t1 : decide (0 ≤ lv) = false := decide_eq_false (by omega)
    rw [HE.out]
    dsimp only
    rw [hl]
    clear hl hb hlv
    go_enter Tryz.func31, Tryz.ntmps31
    go_wp2_with (go_at_call 68; refine HC.out.mono ?_; rintro e w2 ⟨A2, c2, rfl, hown2, hb2⟩; have HO2 := Lib.hid hown2; have HB2 := Lib.hid hb2; clear hown2 hb2)
    exact bodyPost_ret (results_tmp3 rfl _ _ _) rfl ⟨A2, c2, rfl, HO2.out, HB2.out⟩
  · have t1 : decide (0 ≤ lv) = true := decide_eq_true (by omega)
    have hok := toks_okT bs lv bs.length 0 (by omega)
    have hfew := toks_few bs lv
    have hb1 : Below w.heap.size w (w.alloc (.cells zeroWr 114)) := (Below.refl _ w).alloc (Nat.le_refl _) _
    have HB1 := Lib.hid hb1
    have HSP := Lib.hid (split_any A l c bs lv (w.alloc (.cells zeroWr 114)) hl hm hcap ((hb.below hb1 (Nat.le_refl _)).more hb1.size))
    have HWZ : Hid (∀ W, Below (w.alloc (.cells zeroWr 114)).heap.size (w.alloc (.cells zeroWr 114)) W → W.heap[w.heap.size]? = some (.cells zeroWr 114 (0, 0))) := fun W hW => (hW.block _ (by simp)).trans (heap_alloc_new w _)
    obtain ⟨ts, hts⟩ : ∃ ts, toks bs lv 0 = ts := ⟨_, rfl⟩
    have HPE : Hid (pkB lv bs = pack (blkB ts)) := by show _ = _; rw [pkB, hts]
    rw [hts] at hok hfew HSP
    have hfewB := blkB_few hok
    have HPT : Hid (∀ (W : World) (A2 : Option Addr) (c2 : Nat), Cells W W.heap.size A2 (ts.map tkC).flatten → Below (w.alloc (.cells zeroWr 114)).heap.size (w.alloc (.cells zeroWr 114)) W → _) := fun W A2 c2 hc hW =>
      blkput_any A2 ts.length c2 w.heap.size w.heap.size ts (oneB w.heap.size) [] W rfl (by omega) hok (toksOf_tk hok hc).2.1 (fun h0 a ha hk => by
        obtain ⟨t, ht⟩ : ∃ t, ts[0]? = some t := ⟨_, List.getElem?_eq_getElem h0⟩
        exact tkAt_wr ((toksOf_tk hok hc).2.1 0 t ht) (HWZ.out W hW) a ha hk) (WrS.zero _ (HWZ.out W hW)) (by simp) (by have := hW.size; simp at this; omega)
    have hPL : (pack (blkB ts)).length ≤ (blkB ts).length := pack_length _
    obtain ⟨P, hP⟩ : ∃ P, pack (blkB ts) = P := ⟨_, rfl⟩
    have HPP := Lib.hid hP
    rw [hP] at HPE hPL
    have hpl : P.length ≤ 3000000 := by omega
    have hbl : (blkB ts).length ≤ 3000000 := by omega
    have HBLL := Lib.hid hbl
    obtain ⟨k, hk⟩ : ∃ k, ts.length = k := ⟨_, rfl⟩
    rw [hk] at HSP HPT
    obtain ⟨pl, hpl2⟩ : ∃ pl, P.length = pl := ⟨_, rfl⟩
    have HPL := Lib.hid hpl2
    rw [hpl2] at hpl
    have HC : Hid (∀ W, Below w.heap.size w W → _) := fun W hW => clone_any A l c W.heap.size bs W hl (by omega) (Nat.le_refl _) ((hb.below hW (Nat.le_refl _)).more hW.size)
    unfold zeroWr at HSP HPT HB1
    by_cases hlt : pl < l
    · have HE : Hid (pkM lv bs = (1, P)) := by show _ = _; unfold pkM; rw [if_neg hlv, HPE.out, if_pos (by rw [HPL.out, HLL.out]; exact hlt)]
      rw [HE.out]
      dsimp only
      rw [HPL.out]
      have t2 : decide ((pl : Int) < (l : Int)) = true := decide_eq_true (by omega)
      have t2n : decide (pl < l) = true := decide_eq_true hlt
      clear hl hb hlv hok hfew hb1 hts hfewB hP hk hpl2 hlt hPL hbl
      go_enter Tryz.func31, Tryz.ntmps31
      go_wp2_with (first
        | (go_at_call 66; refine HSP.out.mono ?_; rintro e w2 ⟨A2, c2, rfl, hc2, hb2⟩; have HB2 := Lib.hid (HB1.out.trans (hb2.mono HB1.out.size)); have HPU := Lib.hid (HPT.out w2 A2 c2 hc2 hb2); rw [List.nil_append] at HPU; clear hc2 hb2)
        | (go_at_call 65; refine HPU.out.mono ?_; rintro e w3 ⟨rfl, S3, hw3, hm3, hs3⟩; have HW3 := Lib.hid hw3; have HB3 := Lib.hid (hm3.below HB2.out HB2.out.size (fun k hk => by cases hk; exact Nat.le_refl _)); clear hw3 hm3 hs3)
        | (go_at_call 67; refine (wbytes_any w.heap.size w.heap.size S3 (blkB ts) w3 HW3.out (by have := HBLL.out; omega)).mono ?_; rintro e w5 ⟨A5, c5, rfl, hown, hbel⟩; rw [HPP.out, HPL.out] at hown; rw [HPP.out, HPL.out]; have HO5 := Lib.hid (own_leP hown HB3.out.size); have HB5 := Lib.hid (HB3.out.trans (hbel.mono HB3.out.size)); clear hown hbel))
      exact bodyPost_ret (results_tmp3 rfl _ _ _) rfl ⟨A5, c5, rfl, HO5.out, HB5.out⟩
    · have HE : Hid (pkM lv bs = (0, bs)) := by show _ = _; unfold pkM; rw [if_neg hlv, HPE.out, if_neg (by rw [HPL.out, HLL.out]; exact hlt)]
      rw [HE.out]
      dsimp only
      rw [HLL.out]
      have t2 : decide ((pl : Int) < (l : Int)) = false := decide_eq_false (by omega)
      have t2n : decide (pl < l) = false := decide_eq_false hlt
      clear hl hb hlv hok hfew hb1 hts hfewB hP hk hpl2 hlt hPL hbl
      go_enter Tryz.func31, Tryz.ntmps31
      go_wp2_with (first
        | (go_at_call 66; refine HSP.out.mono ?_; rintro e w2 ⟨A2, c2, rfl, hc2, hb2⟩; have HB2 := Lib.hid (HB1.out.trans (hb2.mono HB1.out.size)); have HPU := Lib.hid (HPT.out w2 A2 c2 hc2 hb2); rw [List.nil_append] at HPU; clear hc2 hb2)
        | (go_at_call 65; refine HPU.out.mono ?_; rintro e w3 ⟨rfl, S3, hw3, hm3, hs3⟩; have HW3 := Lib.hid hw3; have HB3 := Lib.hid (hm3.below HB2.out HB2.out.size (fun k hk => by cases hk; exact Nat.le_refl _)); clear hw3 hm3 hs3)
        | (go_at_call 67; refine (wbytes_any w.heap.size w.heap.size S3 (blkB ts) w3 HW3.out (by have := HBLL.out; omega)).mono ?_; rintro e w5 ⟨A5, c5, rfl, hown, hbel⟩; rw [HPP.out, HPL.out]; have HB5 := Lib.hid (HB3.out.trans (hbel.mono HB3.out.size)); clear hown hbel)
        | (go_at_call 68; refine (HC.out _ HB5.out).mono ?_; rintro e w6 ⟨A6, c6, rfl, hown6, hb6⟩; have HO6 := Lib.hid (own_leP hown6 HB5.out.size); have HB6 := Lib.hid (HB5.out.trans (hb6.mono HB5.out.size)); clear hown6 hb6))
      exact bodyPost_ret (results_tmp3 rfl _ _ _) rfl ⟨A6, c6, rfl, HO6.out, HB6.out⟩
end Go.Proofs.YtaknladkodibaaaGreatDoor
/- Layer 14: a payload is made: the document's answer; the law. -/
namespace Go.Proofs.YtaknladkodibaaaGreatDoor
open Go.RowKit BitsP SymP
attribute [local go_sem ↓] Go.wp_at_zero Go.wp_at_succ

end Go.Proofs.YtaknladkodibaaaGreatDoor
/- Layer 22: a member's record, packed: record.Put and the document's answer. -/
namespace Go.Proofs.YtaknladkodibaaaGreatDoor
open Go.RowKit CrcP FieldP BitsP SymP
attribute [local go_sem ↓] Go.wp_at_zero Go.wp_at_succ

/-- A packed record's bytes. -/
def recB (lv : Int) (s : ByteArray) (bs : List UInt8) : List UInt8 := headB (pkM lv bs).1.toNat s.data.toList bs.length (pkM lv bs).2.length (CrcP.sumN (pkM lv bs).2) ++ (pkM lv bs).2
theorem pkM_two (lv : Int) (bs : List UInt8) : ∃ m : Nat, (pkM lv bs).1 = (m : Int) ∧ ((m = 0 ∧ (pkM lv bs).2.length = bs.length) ∨ (m = 1 ∧ (pkM lv bs).2.length < bs.length)) := by
  unfold pkM
  split
  · exact ⟨0, rfl, .inl ⟨rfl, rfl⟩⟩
  · split
    · exact ⟨1, rfl, .inr ⟨rfl, by assumption⟩⟩
    · exact ⟨0, rfl, .inl ⟨rfl, rfl⟩⟩
theorem hdB_pk {s : ByteArray} {m sz ar su : Nat} (hr : rightB s.data.toList = true) (hz : sz ≤ 65536) (h : (m = 0 ∧ ar = sz) ∨ (m = 1 ∧ ar < sz)) : hdB m s.data.toList sz ar su = true := by
  unfold hdB
  rw [hr]
  rcases h with ⟨rfl, rfl⟩ | ⟨rfl, h⟩
  · simp; omega
  · simp; omega
theorem recB_len (lv : Int) (s : ByteArray) (bs : List UInt8) : (recB lv s bs).length = 22 + s.size + (pkM lv bs).2.length := by
  unfold recB
  rw [List.length_append, headB_length]
  rfl
set_option maxRecDepth 100000 in
set_option maxHeartbeats 2000000 in
theorem recPut_yes (tg : Nat) (A : Option Addr) (l c : Nat) (bs : List UInt8) (s : ByteArray) (lv : Int) (w : World) (hT : Table w tg) (hW : Wid w) (hs : s.size ≤ maxLen) (hr : rightB s.data.toList = true) (hl : bs.length = l) (hm : l ≤ 32000) (hcap : l ≤ c) (hb : Bytes w w.heap.size A bs) :
    Calls Tryz.prog 12 #[.pointer (some ⟨tg, 0, none⟩), .string s, .slice A l c, .int .i64 lv] w fun e w' => ∃ A' c', e = .returned (.tuple #[.slice A' (recB lv s bs).length c', .int .i64 0]) ∧ OwnY w' w.heap.size (.slice A' (recB lv s bs).length c') (recB lv s bs).length (recB lv s bs) ∧ Below w.heap.size w w' := by
  have HR := Lib.hid (rightM_any s w hs)
  rw [hr] at HR
  have htl := hT.lt
  have hw0 := hW.1
  have h64 := rightB_len' hr
  have hss : s.data.toList.length = s.size := by rw [Array.length_toList]; rfl
  rw [hss] at h64
  have HPK : Hid (∀ W, Below w.heap.size w W → _) := fun W hW => pack14_any A l c bs lv W hl hm hcap ((hb.below hW (Nat.le_refl _)).more hW.size)
  obtain ⟨m, hpm, hpc⟩ := pkM_two lv bs
  rw [recB_len]
  have hRB : recB lv s bs = headB m s.data.toList l (pkM lv bs).2.length (CrcP.sumN (pkM lv bs).2) ++ (pkM lv bs).2 := by unfold recB; rw [hpm, hl]; rfl
  rw [hRB]
  rw [hpm] at HPK
  rw [hl] at hpc
  obtain ⟨P, hP⟩ : ∃ P, (pkM lv bs).2 = P := ⟨_, rfl⟩
  rw [hP] at HPK hpc ⊢
  obtain ⟨n, hn⟩ : ∃ n, P.length = n := ⟨_, rfl⟩
  rw [hn] at HPK hpc ⊢
  have HN := Lib.hid hn
  have hn2 : n ≤ 32000 := by omega
  have hsl := sumN_lt P
  have HSU : Hid (∀ (W : World) (A2 : Option Addr) (c2 : Nat), Bytes W W.heap.size A2 P → Below w.heap.size w W → _) := fun W A2 c2 h2 hW => sum_any tg A2 n c2 P W.heap.size W hn (by omega) (hT.below hW htl) h2
  obtain ⟨su, hsu⟩ : ∃ su, CrcP.sumN P = su := ⟨_, rfl⟩
  rw [hsu] at HSU hsl ⊢
  have HLP : Hid (∀ W, Below w.heap.size w W → _) := fun W hW' => lcPut_yes tg m s l n su W (hW.below hW' hw0 (by have := hW'.size; omega)) hsl (hdB_pk hr (by omega) hpc) (hT.below hW' htl)
  obtain ⟨HD, hHD⟩ : ∃ HD, headB m s.data.toList l n su = HD := ⟨_, rfl⟩
  rw [hHD] at HLP ⊢
  clear hT hW hs hr hl hb hpm hRB hP hn hsu hHD hpc hss
  go_enter Tryz.func12, Tryz.ntmps12
  go_wp2_with (first
    | (go_at_call 30; refine HR.out.mono ?_; rintro e w1 ⟨rfl, hb1⟩; have HB1 := Lib.hid hb1; clear hb1)
    | (go_at_call 31; refine (HPK.out w1 HB1.out).mono ?_; rintro e w2 ⟨A2, c2, rfl, hown2, hb2⟩; have HC2 := Lib.hid (Cells.of_own hown2); have HB2 := Lib.hid (HB1.out.trans (hb2.mono HB1.out.size)); clear hown2 hb2)
    | (go_at_call 33; refine (HSU.out w2 A2 c2 HC2.out HB2.out).mono ?_; rintro e w3 ⟨rfl, rfl⟩)
    | (go_at_call 32; refine (HLP.out w2 HB2.out).mono ?_; rintro e w4 ⟨A4, c4, rfl, ho4, hb4⟩; have HO4 := Lib.hid (ho4.le HB2.out.size); have HC4 := Lib.hid (HC2.out.below hb4 (Nat.le_refl _)); have HB4 := Lib.hid (HB2.out.trans (hb4.mono HB2.out.size)); clear ho4 hb4)
    | (at_builtin; refine wpList_appT w4 byteElem rfl (.tmp 43) (.tmp 44) rfl w.heap.size (.slice A4 (22 + s.size) c4) (22 + s.size) (byteCells HD) rfl HO4.out w2.heap.size A2 n c2 (byteCells P) rfl (by rw [byteCells_length, HN.out]) HC4.out (byteCells_one _) (by unfold maxLen; omega) (by omega) HB4.out.size ?_; intro A5 c5 w5 hap; have HAP := Lib.hid hap; clear hap))
  refine bodyPost_ret (results_tmp2 rfl _ _ _) rfl ?_
  refine ⟨A5, c5, rfl, ?_, HAP.out.below HB4.out HB4.out.size (fun k hk => (HO4.out.lt k hk).1)⟩
  have h := HAP.out.own
  unfold OwnY
  rw [byteCells_append]
  exact h
end Go.Proofs.YtaknladkodibaaaGreatDoor
/- Layer 22: what is put is taken; the example that goes there and back. -/
namespace Go.Proofs.YtaknladkodibaaaGreatDoor
open Go.RowKit CrcP FieldP
attribute [local go_sem ↓] Go.wp_at_zero Go.wp_at_succ

theorem headB_begin (m : Nat) (l : List UInt8) (sz ar su : Nat) : (headB m l sz ar su).take 4 = headBytes := by
  rw [headB_parts]
  rfl
/-- What begins with a head's mark is no tombstone. -/
theorem no_tomb {bs : List UInt8} {p : Nat} (h : (bs.drop p).take 4 = headBytes) : isB tombBytes bs p = false := by
  have hl : p + 4 ≤ bs.length := by
    have h2 := congrArg List.length h
    rw [List.length_take, List.length_drop] at h2
    have h3 : headBytes.length = 4 := rfl
    omega
  rw [isB_in (mk := tombBytes) (by show p + 4 ≤ _; exact hl), show tombBytes.length = 4 from rfl, h]
  decide
theorem head_at {bs : List UInt8} {p m sz ar su : Nat} {s : ByteArray} (hd : hdB m s.data.toList sz ar su = true) (hsu : su < 4294967296) (h : (bs.drop p).take (22 + s.size) = headB m s.data.toList sz ar su) :
    p + 22 + s.size ≤ bs.length ∧ isB tombBytes bs p = false ∧ lcAns bs p = .tuple #[.agg #[.int .i64 (m : Int), .string s, .int .i64 (sz : Int), .int .i64 (ar : Int), .int .u32 (su : Int)], .int .i64 ((p + 22 + s.size : Nat) : Int), .int .i64 0] := by
  have hss : s.data.toList.length = s.size := by rw [Array.length_toList]; rfl
  obtain ⟨h1, h2, h3⟩ := head_back (bs := bs) (l := s.data.toList) (p := p) (m := m) (sz := sz) (ar := ar) (su := su) hd hsu (by rw [hss]; exact h)
  rw [hss] at h1 h3
  have h4 : (bs.drop p).take 4 = headBytes := by
    have h5 := congrArg (List.take 4) h
    rw [List.take_take, headB_begin] at h5
    rwa [Nat.min_eq_left (by omega)] at h5
  refine ⟨h1, no_tomb h4, ?_⟩
  unfold lcAns
  rw [if_neg (by omega), if_neg (by rw [h2]; simp), Int.toNat_natCast, h3]
theorem sumN_none : CrcP.sumN [] = 0 := by decide
def nameA : ByteArray := ⟨#[97]⟩
theorem nameA_right : rightB nameA.data.toList = true := by decide
theorem recB_a : recB 0 nameA [] = headB 0 nameA.data.toList 0 0 0 := by
  have h : pkM 0 [] = (0, []) := by
    unfold pkM
    rw [if_neg (by decide), if_neg (by simp)]
  unfold recB
  rw [h]
  show headB 0 nameA.data.toList 0 0 (CrcP.sumN []) ++ [] = _
  rw [sumN_none, List.append_nil]
theorem rec_a : isB tombBytes (recB 0 nameA []) 0 = false ∧ lcAns (recB 0 nameA []) 0 = .tuple #[.agg #[.int .i64 0, .string nameA, .int .i64 0, .int .i64 0, .int .u32 0], .int .i64 23, .int .i64 0] := by
  have h := head_at (bs := headB 0 nameA.data.toList 0 0 0) (p := 0) (m := 0) (sz := 0) (ar := 0) (su := 0) (s := nameA) (by decide) (by decide) (by rw [List.drop_zero]; exact List.take_of_length_le (by rw [headB_length]; exact Nat.le_refl _))
  rw [recB_a]
  exact h.2
set_option maxHeartbeats 400000 in
theorem recLen_any (k : Int) (S : ByteArray) (a b c d e f g : Int) (w : World) :
    Calls Tryz.prog 18 #[.agg #[.int .i64 k, .string S, .int .i64 a, .int .i64 b, .int .i64 c, .int .i64 d, .int .u32 e, .int .i64 f, .int .i64 g]] w fun x w' => x = .returned (.int .i64 (wrap64 (g - a))) ∧ w.alloc (.cells #[.int .i64 k, .string S, .int .i64 a, .int .i64 b, .int .i64 c, .int .i64 d, .int .u32 e, .int .i64 f, .int .i64 g] 41) = w' := by
  go_enter Tryz.func18, Tryz.ntmps18
  go_wp2
  go_ret
  exact ⟨rfl, rfl⟩
set_option maxRecDepth 100000 in
set_option maxHeartbeats 1000000 in
theorem lives22_any (w : World) (hW : Wid w) : Calls Tryz.prog 10 #[] w fun e w' => e = .returned (.bool true) ∧ Below w.heap.size w w' := by
  have hz := (zero_of_info tableInfo).1
  have HSZ := Lib.hid tableSize
  have hw0 := hW.1
  have HWI := Lib.hid hW
  have HN : Hid ((recB 0 nameA []).length = 23) := by show _ = _; rw [recB_a, headB_length]; rfl
  have HV := Lib.hid rec_a
  have HLN := Lib.hid (fun W => recLen_any 1 nameA 0 23 0 0 0 0 23 W)
  rw [show wrap64 ((23 : Int) - 0) = 23 from by unfold wrap64; omega] at HLN
  have htA : nameA.toList = [97] := by rw [ByteArray.toList_eq]; rfl
  have HP := Lib.hid (fun g W (hV : Wid W) (hT : Table W g) => recPut_yes g none 0 0 [] nameA 0 W hT hV (by decide) nameA_right rfl (by omega) (Nat.le_refl _) (Cells.nil _ _ _))
  clear hW
  go_enter Tryz.func10, Tryz.ntmps10
  go_wp2_with fail
  refine (make_any _).mono ?_
  rintro e w1 ⟨rfl, hb⟩
  have HG := Lib.hid (heap_alloc_last w1 (.cells (Array.replicate 256 (.int .u32 0)) 28))
  have HB := Lib.hid hb
  clear hb
  go_wp2_with (refine wpList_store_row rfl 28 _ _ rfl w1.heap.size tabCells rfl rfl 28 _ HG.out HSZ.out (by rw [Array.size_replicate, tabCells_size]) tabCells_one ?_; rw [World.setRow_alloc_new])
  have HTB := Lib.hid (table_new w1)
  have HB2 := Lib.hid (HB.out.alloc HB.out.size (.cells tabCells 28))
  generalize w1.alloc (.cells tabCells 28) = w2 at *
  clear hz HG HSZ
  refine (HP.out w1.heap.size w2 (HWI.out.below HB2.out hw0 (by have := HB2.out.size; omega)) HTB.out).mono ?_
  rintro e w3 ⟨A, c, rfl, hown, hbel⟩
  rw [HN.out] at hown ⊢
  have HO3 := Lib.hid hown
  have HB3 := Lib.hid (HB2.out.trans (hbel.mono HB2.out.size))
  have HT3 := Lib.hid (HTB.out.below hbel HTB.out.lt)
  have hc : 23 ≤ c := own_capK hown
  clear hown hbel
  have HTK := Lib.hid (recTake_plain w1.heap.size A 23 c _ 0 w3 0 nameA 0 0 0 23 HT3.out (HWI.out.below HB3.out hw0 (by have := HB3.out.size; omega)) HN.out (by omega) hc (by omega) (by omega) HO3.out.cells HV.out.1 HV.out.2 (by decide) (by decide))
  rw [show (23 : Int) + 0 = 23 from rfl] at HTK
  unfold recOk at HTK
  go_wp2_with (first
    | (go_at_call 16; refine HTK.out.mono ?_; rintro e w4 ⟨rfl, hbw⟩; have HB4 := Lib.hid (HB3.out.trans (hbw.mono HB3.out.size)); have HB5 := Lib.hid (HB4.out.alloc HB4.out.size (.cells #[.int .i64 1, .string nameA, .int .i64 0, .int .i64 23, .int .i64 0, .int .i64 0, .int .u32 0, .int .i64 0, .int .i64 23] 41)); clear hbw)
    | (go_at_call 18; refine (HLN.out _).mono ?_; rintro e w6 ⟨rfl, hw6⟩; have HB6 : Hid (Below w.heap.size w w6) := (by show Below _ _ _; rw [← hw6]; exact HB5.out.alloc HB5.out.size _)))
  go_ret
  exact ⟨rfl, HB6.out⟩
end Go.Proofs.YtaknladkodibaaaGreatDoor
/- Layer 22: what record stands at a place: the law. -/
namespace Go.Proofs.YtaknladkodibaaaGreatDoor
open Go.RowKit CrcP FieldP
attribute [local go_sem ↓] Go.wp_at_zero Go.wp_at_succ

/-- A record stands where it was asked for. -/
def isRecA (p : Int) (v : Value) : Prop := ∃ (k : Int) (S : ByteArray) (a b d q u f g x : Int), v = .tuple #[.agg #[.int .i64 k, .string S, .int .i64 a, .int .i64 b, .int .i64 d, .int .i64 q, .int .u32 u, .int .i64 f, .int .i64 g], .int .i64 x] ∧ (x = 0 → a = p)
theorem isRecA_bad {p e : Int} (h : e ≠ 0) : isRecA p (recBad e) := ⟨_, _, _, _, _, _, _, _, _, _, rfl, fun h2 => absurd h2 h⟩
theorem isRecA_ok (k : Int) (S : ByteArray) (p fr ar sz su me nx : Int) : isRecA p (recOk k S p fr ar sz su me nx) := ⟨_, _, _, _, _, _, _, _, _, _, rfl, fun _ => rfl⟩
theorem recV_formA (bs : List UInt8) (p : Int) : isRecA p (recV bs p) := by
  cases h : isB tombBytes bs p with
  | true =>
    obtain ⟨S, K, E, he⟩ := stAns_form bs p
    rw [recV_st h he]
    unfold recGone
    split
    · exact isRecA_ok _ _ _ _ _ _ _ _ _
    · exact isRecA_bad (by assumption)
  | false =>
    obtain ⟨m, S, sz, ar, su, K, E, he⟩ := lcAns_form bs p
    rw [recV_lc h he]
    by_cases hE : E = 0
    · subst hE
      by_cases hm : m = 2
      · subst hm
        obtain ⟨n, x, he⟩ := endV_form bs K
        rw [recLc2_ds he]
        by_cases hx : x = 0
        · subst hx
          obtain ⟨a, b, s, he⟩ := dcA_form bs n
          rw [recDs_in he]
          unfold recDs2
          split
          · split
            · exact isRecA_ok _ _ _ _ _ _ _ _ _
            · exact isRecA_bad (by decide)
          · exact isRecA_bad (by omega)
        · rw [recDs_bad hx]
          exact isRecA_bad hx
      · by_cases h2 : (bs.length : Int) < K + ar
        · rw [recLc2_end hm h2]; exact isRecA_bad (by decide)
        · rw [recLc2_ok hm h2]; exact isRecA_ok _ _ _ _ _ _ _ _ _
    · rw [recLc2_bad hE]
      exact isRecA_bad hE
set_option linter.unusedSimpArgs false in
set_option maxRecDepth 100000 in
set_option maxHeartbeats 2000000 in
theorem rectakes_law (A : Option Addr) (l c : Nat) (bs : List UInt8) (p : Int) (w : World) (hW : Wid w) (hl : bs.length = l) (hcap : l ≤ c) (p0 : -9223372036854775808 ≤ p) (p1 : p ≤ 9223372036854775807) (hb : Bytes w w.heap.size A bs) :
    Calls Tryz.prog 4 #[.slice A l c, .int .i64 p] w fun e w' => e = .returned (.bool true) ∧ Below w.heap.size w w' := by
  have hw0 := hW.1
  have HWI : Hid (∀ W, Below w.heap.size w W → Wid W) := fun W hB => hW.below hB hw0 (by have := hB.size; omega)
  by_cases h3 : 3000 < l
  · have t0 : decide ((3000 : Int) < (l : Int)) = true := decide_eq_true (by omega)
    clear hb hl h3
    go_enter Tryz.func4, Tryz.ntmps4
    go_wp2_with (go_at_call 10; refine (lives22_any _ hW).mono ?_; rintro e w4 ⟨rfl, hb4⟩; have HB4 := Lib.hid hb4; clear hb4)
    go_ret
    exact ⟨rfl, HB4.out⟩
  have t0 : decide ((3000 : Int) < (l : Int)) = false := decide_eq_false (by omega)
  have hz := (zero_of_info tableInfo).1
  have HSZ := Lib.hid tableSize
  have HTK : Hid (∀ (tg : Nat) W, Table W tg → Below w.heap.size w W → _) := fun tg W hT hB => recTake_any tg A l c bs p W hT (HWI.out W hB) hl (by omega) hcap p0 p1 ((hb.below hB (Nat.le_refl _)).more hB.size)
  have HRT : Hid (∀ W, Below w.heap.size w W → _) := fun W hB => refRec_any A l c bs p W hl (by omega) hcap ((hb.below hB (Nat.le_refl _)).more hB.size)
  obtain ⟨k, S, a, b, d, q, u, f, g, x, hf, hx⟩ := recV_formA bs p
  rw [hf] at HTK HRT
  clear hb hl hf h3 hW
  by_cases hx0 : x = 0
  · subst hx0
    obtain rfl : a = p := hx rfl
    clear hx
    have HLN := Lib.hid (fun W => recLen_any k S a b d q u f g W)
    rw [show wrap64 (g - a) = IntKind.i64.wrap (g - a) from by unfold wrap64; simp only [IntKind.wrap, IntKind.signed, IntKind.bits, Bool.true_and, decide_eq_true_eq, show (2 : Int) ^ (64 - 1) = 9223372036854775808 from rfl, show (2 : Int) ^ 64 = 18446744073709551616 from rfl]; split <;> omega] at HLN
    go_enter Tryz.func4, Tryz.ntmps4
    go_wp2_with fail
    refine (make_any _).mono ?_
    rintro e w1 ⟨rfl, hb⟩
    have HG := Lib.hid (heap_alloc_last w1 (.cells (Array.replicate 256 (.int .u32 0)) 28))
    have HB1 := Lib.hid hb
    clear hb
    go_wp2_with (refine wpList_store_row rfl 28 _ _ rfl w1.heap.size tabCells rfl rfl 28 _ HG.out HSZ.out (by rw [Array.size_replicate, tabCells_size]) tabCells_one ?_; rw [World.setRow_alloc_new]; have HTB := Lib.hid (table_new w1); have HB2 := Lib.hid (HB1.out.alloc HB1.out.size (.cells tabCells 28)); generalize w1.alloc (.cells tabCells 28) = w2 at *)
    clear hz HG HSZ
    refine (HTK.out _ _ HTB.out HB2.out).mono ?_
    rintro e w3 ⟨rfl, hb⟩
    have HB3 := Lib.hid (HB2.out.trans (hb.mono HB2.out.size))
    clear hb HTK HTB HB2 HB1
    obtain ⟨W4, hW4⟩ : ∃ W4, w3.alloc (.cells #[.int .i64 k, .string S, .int .i64 a, .int .i64 b, .int .i64 d, .int .i64 q, .int .u32 u, .int .i64 f, .int .i64 g] 41) = W4 := ⟨_, rfl⟩
    have HX4 : Hid (Box W4 w3.heap.size #[.int .i64 k, .string S, .int .i64 a, .int .i64 b, .int .i64 d, .int .i64 q, .int .u32 u, .int .i64 f, .int .i64 g] 41) := by show Box _ _ _ _; rw [← hW4]; exact heap_alloc_new w3 _
    have HB4 : Hid (Below w.heap.size w W4) := by show Below _ _ _; rw [← hW4]; exact HB3.out.alloc HB3.out.size _
    go_upto_region 6 with (go_at_call 17; refine (HRT.out _ HB4.out).mono ?_; rintro e w5 ⟨rfl, hb⟩; have HX5 := Lib.hid (HX4.out.below hb HX4.out.lt); have HB5 := Lib.hid (HB4.out.trans (hb.mono HB4.out.size)); clear hb)
    obtain ⟨W6, hW6⟩ : ∃ W6, w5.alloc (.cells #[.int .i64 k, .string S, .int .i64 a, .int .i64 b, .int .i64 d, .int .i64 q, .int .u32 u, .int .i64 f, .int .i64 g] 44) = W6 := ⟨_, rfl⟩
    have HX6 : Hid (Box W6 w3.heap.size #[.int .i64 k, .string S, .int .i64 a, .int .i64 b, .int .i64 d, .int .i64 q, .int .u32 u, .int .i64 f, .int .i64 g] 41) := by show Box _ _ _ _; rw [← hW6]; exact HX5.out.alloc _
    have HY6 : Hid (Box W6 w5.heap.size #[.int .i64 k, .string S, .int .i64 a, .int .i64 b, .int .i64 d, .int .i64 q, .int .u32 u, .int .i64 f, .int .i64 g] 44) := by show Box _ _ _ _; rw [← hW6]; exact heap_alloc_new w5 _
    have HB6 : Hid (Below w.heap.size w W6) := by show Below _ _ _; rw [← hW6]; exact HB5.out.alloc HB5.out.size _
    have HB6D : Hid (Below w.heap.size w W6.drew) := HB6.out.drew
    rw [hW6]
    clear hW6 hW4 HX4 HB4 HX5 HB5 HRT
    refine wp_region_noPanic (wp_region_held_drew (S := (fun V : World => V.cell? ⟨w3.heap.size, 0, none⟩ = some (.int .i64 k) ∧ V.cell? ⟨w3.heap.size, 1, none⟩ = some (.string S) ∧ V.cell? ⟨w3.heap.size, 2, none⟩ = some (.int .i64 a) ∧ V.cell? ⟨w3.heap.size, 3, none⟩ = some (.int .i64 b) ∧ V.cell? ⟨w3.heap.size, 4, none⟩ = some (.int .i64 d) ∧ V.cell? ⟨w3.heap.size, 5, none⟩ = some (.int .i64 q) ∧ V.cell? ⟨w3.heap.size, 6, none⟩ = some (.int .u32 u) ∧ V.cell? ⟨w3.heap.size, 7, none⟩ = some (.int .i64 f) ∧ V.cell? ⟨w3.heap.size, 8, none⟩ = some (.int .i64 g) ∧ V.cell? ⟨w5.heap.size, 0, none⟩ = some (.int .i64 k) ∧ V.cell? ⟨w5.heap.size, 1, none⟩ = some (.string S) ∧ V.cell? ⟨w5.heap.size, 2, none⟩ = some (.int .i64 a) ∧ V.cell? ⟨w5.heap.size, 3, none⟩ = some (.int .i64 b) ∧ V.cell? ⟨w5.heap.size, 4, none⟩ = some (.int .i64 d) ∧ V.cell? ⟨w5.heap.size, 5, none⟩ = some (.int .i64 q) ∧ V.cell? ⟨w5.heap.size, 6, none⟩ = some (.int .u32 u) ∧ V.cell? ⟨w5.heap.size, 7, none⟩ = some (.int .i64 f) ∧ V.cell? ⟨w5.heap.size, 8, none⟩ = some (.int .i64 g))) (by kernel_rfl) ⟨HX6.out.cell 0, HX6.out.cell 1, HX6.out.cell 2, HX6.out.cell 3, HX6.out.cell 4, HX6.out.cell 5, HX6.out.cell 6, HX6.out.cell 7, HX6.out.cell 8, HY6.out.cell 0, HY6.out.cell 1, HY6.out.cell 2, HY6.out.cell 3, HY6.out.cell 4, HY6.out.cell 5, HY6.out.cell 6, HY6.out.cell 7, HY6.out.cell 8⟩ (fun hHeld => ?_))
    (try simp only [Act.put, List.setIfInBounds_toArray, List.set_cons_zero, List.set_cons_succ])
    refine wpAnyH_take (i := 0) (v := ?_) (by simp only [List.getElem?_toArray, List.getElem?_cons_succ, List.getElem?_cons_zero]; rfl) (by kernel_rfl) (by kernel_rfl) (by kernel_rfl) (fun _ _ _ h => h) (Or.inl ⟨by rfl, ?_⟩) (by assumption) ?_
    rotate_left
    · intro w hSw; (try dsimp only at hSw); go_split_ands; go_simp; (try with_reducible rfl)
    (try simp only [Act.put, List.setIfInBounds_toArray, List.set_cons_zero, List.set_cons_succ])
    refine wpAnyH_take (i := 1) (v := ?_) (by simp only [List.getElem?_toArray, List.getElem?_cons_succ, List.getElem?_cons_zero]; rfl) (by kernel_rfl) (by kernel_rfl) (by kernel_rfl) (fun _ _ _ h => h) (Or.inl ⟨by rfl, ?_⟩) (by assumption) ?_
    rotate_left
    · intro w hSw; (try dsimp only at hSw); go_split_ands; go_simp; (try with_reducible rfl)
    (try simp only [Act.put, List.setIfInBounds_toArray, List.set_cons_zero, List.set_cons_succ])
    refine wpAnyH_take (i := 2) (v := ?_) (by simp only [List.getElem?_toArray, List.getElem?_cons_succ, List.getElem?_cons_zero]; rfl) (by kernel_rfl) (by kernel_rfl) (by kernel_rfl) (fun _ _ _ h => h) (Or.inl ⟨by rfl, ?_⟩) (by assumption) ?_
    rotate_left
    · intro w hSw; (try dsimp only at hSw); go_split_ands; go_simp; (try with_reducible rfl)
    (try simp only [Act.put, List.setIfInBounds_toArray, List.set_cons_zero, List.set_cons_succ])
    refine wpAnyH_take (i := 3) (v := ?_) (by simp only [List.getElem?_toArray, List.getElem?_cons_succ, List.getElem?_cons_zero]; rfl) (by kernel_rfl) (by kernel_rfl) (by kernel_rfl) (fun _ _ _ h => h) (Or.inl ⟨by rfl, ?_⟩) (by assumption) ?_
    rotate_left
    · intro w hSw; (try dsimp only at hSw); go_split_ands; go_simp; (try with_reducible rfl)
    (try simp only [Act.put, List.setIfInBounds_toArray, List.set_cons_zero, List.set_cons_succ])
    refine wpAnyH_take (i := 4) (v := ?_) (by simp only [List.getElem?_toArray, List.getElem?_cons_succ, List.getElem?_cons_zero]; rfl) (by kernel_rfl) (by kernel_rfl) (by kernel_rfl) (fun _ _ _ h => h) (Or.inl ⟨by rfl, ?_⟩) (by assumption) ?_
    rotate_left
    · intro w hSw; (try dsimp only at hSw); go_split_ands; go_simp; (try with_reducible rfl)
    (try simp only [Act.put, List.setIfInBounds_toArray, List.set_cons_zero, List.set_cons_succ])
    refine wpAnyH_take (i := 5) (v := ?_) (by simp only [List.getElem?_toArray, List.getElem?_cons_succ, List.getElem?_cons_zero]; rfl) (by kernel_rfl) (by kernel_rfl) (by kernel_rfl) (fun _ _ _ h => h) (Or.inl ⟨by rfl, ?_⟩) (by assumption) ?_
    rotate_left
    · intro w hSw; (try dsimp only at hSw); go_split_ands; go_simp; (try with_reducible rfl)
    (try simp only [Act.put, List.setIfInBounds_toArray, List.set_cons_zero, List.set_cons_succ])
    refine wpAnyH_take (i := 6) (v := ?_) (by simp only [List.getElem?_toArray, List.getElem?_cons_succ, List.getElem?_cons_zero]; rfl) (by kernel_rfl) (by kernel_rfl) (by kernel_rfl) (fun _ _ _ h => h) (Or.inl ⟨by rfl, ?_⟩) (by assumption) ?_
    rotate_left
    · intro w hSw; (try dsimp only at hSw); go_split_ands; go_simp; (try with_reducible rfl)
    (try simp only [Act.put, List.setIfInBounds_toArray, List.set_cons_zero, List.set_cons_succ])
    refine wpAnyH_take (i := 7) (v := ?_) (by simp only [List.getElem?_toArray, List.getElem?_cons_succ, List.getElem?_cons_zero]; rfl) (by kernel_rfl) (by kernel_rfl) (by kernel_rfl) (fun _ _ _ h => h) (Or.inl ⟨by rfl, ?_⟩) (by assumption) ?_
    rotate_left
    · intro w hSw; (try dsimp only at hSw); go_split_ands; go_simp; (try with_reducible rfl)
    (try simp only [Act.put, List.setIfInBounds_toArray, List.set_cons_zero, List.set_cons_succ])
    refine wpAnyH_take (i := 8) (v := ?_) (by simp only [List.getElem?_toArray, List.getElem?_cons_succ, List.getElem?_cons_zero]; rfl) (by kernel_rfl) (by kernel_rfl) (by kernel_rfl) (fun _ _ _ h => h) (Or.inl ⟨by rfl, ?_⟩) (by assumption) ?_
    rotate_left
    · intro w hSw; (try dsimp only at hSw); go_split_ands; go_simp; (try with_reducible rfl)
    (try simp only [Act.put, List.setIfInBounds_toArray, List.set_cons_zero, List.set_cons_succ])
    refine wpAnyH_take (i := 9) (v := ?_) (by simp only [List.getElem?_toArray, List.getElem?_cons_succ, List.getElem?_cons_zero]; rfl) (by kernel_rfl) (by kernel_rfl) (by kernel_rfl) (fun _ _ _ h => h) (Or.inl ⟨by rfl, ?_⟩) (by assumption) ?_
    rotate_left
    · intro w hSw; (try dsimp only at hSw); go_split_ands; go_simp; (try with_reducible rfl)
    (try simp only [Act.put, List.setIfInBounds_toArray, List.set_cons_zero, List.set_cons_succ])
    refine wpAnyH_take (i := 10) (v := ?_) (by simp only [List.getElem?_toArray, List.getElem?_cons_succ, List.getElem?_cons_zero]; rfl) (by kernel_rfl) (by kernel_rfl) (by kernel_rfl) (fun _ _ _ h => h) (Or.inl ⟨by rfl, ?_⟩) (by assumption) ?_
    rotate_left
    · intro w hSw; (try dsimp only at hSw); go_split_ands; go_simp; (try with_reducible rfl)
    (try simp only [Act.put, List.setIfInBounds_toArray, List.set_cons_zero, List.set_cons_succ])
    refine wpAnyH_take (i := 11) (v := ?_) (by simp only [List.getElem?_toArray, List.getElem?_cons_succ, List.getElem?_cons_zero]; rfl) (by kernel_rfl) (by kernel_rfl) (by kernel_rfl) (fun _ _ _ h => h) (Or.inl ⟨by rfl, ?_⟩) (by assumption) ?_
    rotate_left
    · intro w hSw; (try dsimp only at hSw); go_split_ands; go_simp; (try with_reducible rfl)
    (try simp only [Act.put, List.setIfInBounds_toArray, List.set_cons_zero, List.set_cons_succ])
    refine wpAnyH_take (i := 12) (v := ?_) (by simp only [List.getElem?_toArray, List.getElem?_cons_succ, List.getElem?_cons_zero]; rfl) (by kernel_rfl) (by kernel_rfl) (by kernel_rfl) (fun _ _ _ h => h) (Or.inl ⟨by rfl, ?_⟩) (by assumption) ?_
    rotate_left
    · intro w hSw; (try dsimp only at hSw); go_split_ands; go_simp; (try with_reducible rfl)
    (try simp only [Act.put, List.setIfInBounds_toArray, List.set_cons_zero, List.set_cons_succ])
    refine wpAnyH_take (i := 14) (v := ?_) (by simp only [List.getElem?_toArray, List.getElem?_cons_succ, List.getElem?_cons_zero]; rfl) (by kernel_rfl) (by kernel_rfl) (by kernel_rfl) (fun _ _ _ h => h) (Or.inl ⟨by rfl, ?_⟩) (by assumption) ?_
    rotate_left
    · intro w hSw; (try dsimp only at hSw); go_split_ands; go_simp; (try with_reducible rfl)
    (try simp only [Act.put, List.setIfInBounds_toArray, List.set_cons_zero, List.set_cons_succ])
    refine wpAnyH_take (i := 15) (v := ?_) (by simp only [List.getElem?_toArray, List.getElem?_cons_succ, List.getElem?_cons_zero]; rfl) (by kernel_rfl) (by kernel_rfl) (by kernel_rfl) (fun _ _ _ h => h) (Or.inl ⟨by rfl, ?_⟩) (by assumption) ?_
    rotate_left
    · intro w hSw; (try dsimp only at hSw); go_split_ands; go_simp; (try with_reducible rfl)
    (try simp only [Act.put, List.setIfInBounds_toArray, List.set_cons_zero, List.set_cons_succ])
    refine wpAnyH_take (i := 16) (v := ?_) (by simp only [List.getElem?_toArray, List.getElem?_cons_succ, List.getElem?_cons_zero]; rfl) (by kernel_rfl) (by kernel_rfl) (by kernel_rfl) (fun _ _ _ h => h) (Or.inl ⟨by rfl, ?_⟩) (by assumption) ?_
    rotate_left
    · intro w hSw; (try dsimp only at hSw); go_split_ands; go_simp; (try with_reducible rfl)
    (try simp only [Act.put, List.setIfInBounds_toArray, List.set_cons_zero, List.set_cons_succ])
    refine wpAnyH_take (i := 17) (v := ?_) (by simp only [List.getElem?_toArray, List.getElem?_cons_succ, List.getElem?_cons_zero]; rfl) (by kernel_rfl) (by kernel_rfl) (by kernel_rfl) (fun _ _ _ h => h) (Or.inl ⟨by rfl, ?_⟩) (by assumption) ?_
    rotate_left
    · intro w hSw; (try dsimp only at hSw); go_split_ands; go_simp; (try with_reducible rfl)
    (try simp only [Act.put, List.setIfInBounds_toArray, List.set_cons_zero, List.set_cons_succ])
    refine wpAnyH_ready (rs := [13]) (by kernel_rfl) (by simp) ?_
    refine AllReadyH.cons rfl (fun K hK => ?_) AllReadyH.nil
    go_simp
    refine (HLN.out _).mono ?_; rintro e w7 ⟨rfl, hw7⟩; have HX7 : Hid (Box w7 w3.heap.size #[.int .i64 k, .string S, .int .i64 a, .int .i64 b, .int .i64 d, .int .i64 q, .int .u32 u, .int .i64 f, .int .i64 g] 41) := (by show Box _ _ _ _; rw [← hw7]; exact HX6.out.alloc _); have HY7 : Hid (Box w7 w5.heap.size #[.int .i64 k, .string S, .int .i64 a, .int .i64 b, .int .i64 d, .int .i64 q, .int .u32 u, .int .i64 f, .int .i64 g] 44) := (by show Box _ _ _ _; rw [← hw7]; exact HY6.out.alloc _); have HB7 : Hid (Below w.heap.size w w7) := (by show Below _ _ _; rw [← hw7]; exact HB6D.out.alloc HB6D.out.size _); clear hw7
    go_wp2_with fail
    refine hK.out _ _ ⟨HX7.out.cell 0, HX7.out.cell 1, HX7.out.cell 2, HX7.out.cell 3, HX7.out.cell 4, HX7.out.cell 5, HX7.out.cell 6, HX7.out.cell 7, HX7.out.cell 8, HY7.out.cell 0, HY7.out.cell 1, HY7.out.cell 2, HY7.out.cell 3, HY7.out.cell 4, HY7.out.cell 5, HY7.out.cell 6, HY7.out.cell 7, HY7.out.cell 8⟩ (fun hHeld => ?_)
    clear hK K
    (try simp only [Act.put, List.setIfInBounds_toArray, List.set_cons_zero, List.set_cons_succ])
    refine wpAnyH_take (i := 18) (v := ?_) (by simp only [List.getElem?_toArray, List.getElem?_cons_succ, List.getElem?_cons_zero]; rfl) (by kernel_rfl) (by kernel_rfl) (by kernel_rfl) (fun _ _ _ h => h) (Or.inl ⟨by rfl, ?_⟩) (by assumption) ?_
    rotate_left
    · intro w hSw; (try dsimp only at hSw); go_split_ands; go_simp; (try with_reducible rfl)
    (try simp only [Act.put, List.setIfInBounds_toArray, List.set_cons_zero, List.set_cons_succ])
    refine wpAnyH_take (i := 19) (v := ?_) (by simp only [List.getElem?_toArray, List.getElem?_cons_succ, List.getElem?_cons_zero]; rfl) (by kernel_rfl) (by kernel_rfl) (by kernel_rfl) (fun _ _ _ h => h) (Or.inl ⟨by rfl, ?_⟩) (by assumption) ?_
    rotate_left
    · intro w hSw; (try dsimp only at hSw); go_split_ands; go_simp; (try with_reducible rfl)
    (try simp only [Act.put, List.setIfInBounds_toArray, List.set_cons_zero, List.set_cons_succ])
    refine wpAnyH_take (i := 20) (v := ?_) (by simp only [List.getElem?_toArray, List.getElem?_cons_succ, List.getElem?_cons_zero]; rfl) (by kernel_rfl) (by kernel_rfl) (by kernel_rfl) (fun _ _ _ h => h) (Or.inl ⟨by rfl, ?_⟩) (by assumption) ?_
    rotate_left
    · intro w hSw; (try dsimp only at hSw); go_split_ands; go_simp; (try with_reducible rfl)
    (try simp only [Act.put, List.setIfInBounds_toArray, List.set_cons_zero, List.set_cons_succ])
    refine wpAnyH_take (i := 21) (v := ?_) (by simp only [List.getElem?_toArray, List.getElem?_cons_succ, List.getElem?_cons_zero]; rfl) (by kernel_rfl) (by kernel_rfl) (by kernel_rfl) (fun _ _ _ h => h) (Or.inl ⟨by rfl, ?_⟩) (by assumption) ?_
    rotate_left
    · intro w hSw; (try dsimp only at hSw); go_split_ands; go_simp; (try with_reducible rfl)
    (try simp only [Act.put, List.setIfInBounds_toArray, List.set_cons_zero, List.set_cons_succ])
    refine wpAnyH_ready (rs := [22]) (by kernel_rfl) (by simp) ?_
    refine AllReadyH.cons rfl (fun K hK => ?_) AllReadyH.nil
    go_simp
    refine (lives22_any w7 (HWI.out w7 HB7.out)).mono ?_; rintro e w8 ⟨rfl, hb8⟩; have HX8 := Lib.hid (HX7.out.below hb8 HX7.out.lt); have HY8 := Lib.hid (HY7.out.below hb8 HY7.out.lt); have HB8 := Lib.hid (HB7.out.trans (hb8.mono HB7.out.size)); clear hb8
    go_wp2_with fail
    refine hK.out _ _ ⟨HX8.out.cell 0, HX8.out.cell 1, HX8.out.cell 2, HX8.out.cell 3, HX8.out.cell 4, HX8.out.cell 5, HX8.out.cell 6, HX8.out.cell 7, HX8.out.cell 8, HY8.out.cell 0, HY8.out.cell 1, HY8.out.cell 2, HY8.out.cell 3, HY8.out.cell 4, HY8.out.cell 5, HY8.out.cell 6, HY8.out.cell 7, HY8.out.cell 8⟩ (fun hHeld => ?_)
    clear hK K
    (try simp only [Act.put, List.setIfInBounds_toArray, List.set_cons_zero, List.set_cons_succ])
    refine wpAnyH_take (i := 23) (v := ?_) (by simp only [List.getElem?_toArray, List.getElem?_cons_succ, List.getElem?_cons_zero]; rfl) (by kernel_rfl) (by kernel_rfl) (by kernel_rfl) (fun _ _ _ h => h) (Or.inl ⟨by rfl, ?_⟩) (by assumption) ?_
    rotate_left
    · intro w hSw; (try dsimp only at hSw); go_split_ands; go_simp; (try with_reducible rfl)
    (try simp only [Act.put, List.setIfInBounds_toArray, List.set_cons_zero, List.set_cons_succ])
    refine wpAnyH_take (i := 24) (v := ?_) (by simp only [List.getElem?_toArray, List.getElem?_cons_succ, List.getElem?_cons_zero]; rfl) (by kernel_rfl) (by kernel_rfl) (by kernel_rfl) (fun _ _ _ h => h) (Or.inl ⟨by rfl, ?_⟩) (by assumption) ?_
    rotate_left
    · intro w hSw; (try dsimp only at hSw); go_split_ands; go_simp; (try with_reducible rfl)
    (try simp only [Act.put, List.setIfInBounds_toArray, List.set_cons_zero, List.set_cons_succ])
    refine wpAnyH_done (by kernel_rfl) (NoPanic.normal ?_) _
    go_wp2
    go_ret
    exact ⟨rfl, HB8.out⟩
  · have v1 : (x != 0) = true := by simpa using hx0
    clear hx hx0
    go_enter Tryz.func4, Tryz.ntmps4
    go_wp2_with fail
    refine (make_any _).mono ?_
    rintro e w1 ⟨rfl, hb⟩
    have HG := Lib.hid (heap_alloc_last w1 (.cells (Array.replicate 256 (.int .u32 0)) 28))
    have HB1 := Lib.hid hb
    clear hb
    go_wp2_with (refine wpList_store_row rfl 28 _ _ rfl w1.heap.size tabCells rfl rfl 28 _ HG.out HSZ.out (by rw [Array.size_replicate, tabCells_size]) tabCells_one ?_; rw [World.setRow_alloc_new]; have HTB := Lib.hid (table_new w1); have HB2 := Lib.hid (HB1.out.alloc HB1.out.size (.cells tabCells 28)); generalize w1.alloc (.cells tabCells 28) = w2 at *)
    clear hz HG HSZ
    refine (HTK.out _ _ HTB.out HB2.out).mono ?_
    rintro e w3 ⟨rfl, hb⟩
    have HB3 := Lib.hid (HB2.out.trans (hb.mono HB2.out.size))
    clear hb HTK HTB HB2 HB1
    obtain ⟨W4, hW4⟩ : ∃ W4, w3.alloc (.cells #[.int .i64 k, .string S, .int .i64 a, .int .i64 b, .int .i64 d, .int .i64 q, .int .u32 u, .int .i64 f, .int .i64 g] 41) = W4 := ⟨_, rfl⟩
    have HX4 : Hid (Box W4 w3.heap.size #[.int .i64 k, .string S, .int .i64 a, .int .i64 b, .int .i64 d, .int .i64 q, .int .u32 u, .int .i64 f, .int .i64 g] 41) := by show Box _ _ _ _; rw [← hW4]; exact heap_alloc_new w3 _
    have HB4 : Hid (Below w.heap.size w W4) := by show Below _ _ _; rw [← hW4]; exact HB3.out.alloc HB3.out.size _
    go_upto_region 6 with (go_at_call 17; refine (HRT.out _ HB4.out).mono ?_; rintro e w5 ⟨rfl, hb⟩; have HX5 := Lib.hid (HX4.out.below hb HX4.out.lt); have HB5 := Lib.hid (HB4.out.trans (hb.mono HB4.out.size)); clear hb)
    obtain ⟨W6, hW6⟩ : ∃ W6, w5.alloc (.cells #[.int .i64 k, .string S, .int .i64 a, .int .i64 b, .int .i64 d, .int .i64 q, .int .u32 u, .int .i64 f, .int .i64 g] 44) = W6 := ⟨_, rfl⟩
    have HX6 : Hid (Box W6 w3.heap.size #[.int .i64 k, .string S, .int .i64 a, .int .i64 b, .int .i64 d, .int .i64 q, .int .u32 u, .int .i64 f, .int .i64 g] 41) := by show Box _ _ _ _; rw [← hW6]; exact HX5.out.alloc _
    have HY6 : Hid (Box W6 w5.heap.size #[.int .i64 k, .string S, .int .i64 a, .int .i64 b, .int .i64 d, .int .i64 q, .int .u32 u, .int .i64 f, .int .i64 g] 44) := by show Box _ _ _ _; rw [← hW6]; exact heap_alloc_new w5 _
    have HB6 : Hid (Below w.heap.size w W6) := by show Below _ _ _; rw [← hW6]; exact HB5.out.alloc HB5.out.size _
    have HB6D : Hid (Below w.heap.size w W6.drew) := HB6.out.drew
    rw [hW6]
    clear hW6 hW4 HX4 HB4 HX5 HB5 HRT
    refine wp_region_noPanic (wp_region_held_drew (S := (fun V : World => V.cell? ⟨w3.heap.size, 0, none⟩ = some (.int .i64 k) ∧ V.cell? ⟨w3.heap.size, 1, none⟩ = some (.string S) ∧ V.cell? ⟨w3.heap.size, 2, none⟩ = some (.int .i64 a) ∧ V.cell? ⟨w3.heap.size, 3, none⟩ = some (.int .i64 b) ∧ V.cell? ⟨w3.heap.size, 4, none⟩ = some (.int .i64 d) ∧ V.cell? ⟨w3.heap.size, 5, none⟩ = some (.int .i64 q) ∧ V.cell? ⟨w3.heap.size, 6, none⟩ = some (.int .u32 u) ∧ V.cell? ⟨w3.heap.size, 7, none⟩ = some (.int .i64 f) ∧ V.cell? ⟨w3.heap.size, 8, none⟩ = some (.int .i64 g) ∧ V.cell? ⟨w5.heap.size, 0, none⟩ = some (.int .i64 k) ∧ V.cell? ⟨w5.heap.size, 1, none⟩ = some (.string S) ∧ V.cell? ⟨w5.heap.size, 2, none⟩ = some (.int .i64 a) ∧ V.cell? ⟨w5.heap.size, 3, none⟩ = some (.int .i64 b) ∧ V.cell? ⟨w5.heap.size, 4, none⟩ = some (.int .i64 d) ∧ V.cell? ⟨w5.heap.size, 5, none⟩ = some (.int .i64 q) ∧ V.cell? ⟨w5.heap.size, 6, none⟩ = some (.int .u32 u) ∧ V.cell? ⟨w5.heap.size, 7, none⟩ = some (.int .i64 f) ∧ V.cell? ⟨w5.heap.size, 8, none⟩ = some (.int .i64 g))) (by kernel_rfl) ⟨HX6.out.cell 0, HX6.out.cell 1, HX6.out.cell 2, HX6.out.cell 3, HX6.out.cell 4, HX6.out.cell 5, HX6.out.cell 6, HX6.out.cell 7, HX6.out.cell 8, HY6.out.cell 0, HY6.out.cell 1, HY6.out.cell 2, HY6.out.cell 3, HY6.out.cell 4, HY6.out.cell 5, HY6.out.cell 6, HY6.out.cell 7, HY6.out.cell 8⟩ (fun hHeld => ?_))
    (try simp only [Act.put, List.setIfInBounds_toArray, List.set_cons_zero, List.set_cons_succ])
    refine wpAnyH_take (i := 0) (v := ?_) (by simp only [List.getElem?_toArray, List.getElem?_cons_succ, List.getElem?_cons_zero]; rfl) (by kernel_rfl) (by kernel_rfl) (by kernel_rfl) (fun _ _ _ h => h) (Or.inl ⟨by rfl, ?_⟩) (by assumption) ?_
    rotate_left
    · intro w hSw; (try dsimp only at hSw); go_split_ands; go_simp; (try with_reducible rfl)
    (try simp only [Act.put, List.setIfInBounds_toArray, List.set_cons_zero, List.set_cons_succ])
    refine wpAnyH_take (i := 1) (v := ?_) (by simp only [List.getElem?_toArray, List.getElem?_cons_succ, List.getElem?_cons_zero]; rfl) (by kernel_rfl) (by kernel_rfl) (by kernel_rfl) (fun _ _ _ h => h) (Or.inl ⟨by rfl, ?_⟩) (by assumption) ?_
    rotate_left
    · intro w hSw; (try dsimp only at hSw); go_split_ands; go_simp; (try with_reducible rfl)
    (try simp only [Act.put, List.setIfInBounds_toArray, List.set_cons_zero, List.set_cons_succ])
    refine wpAnyH_take (i := 2) (v := ?_) (by simp only [List.getElem?_toArray, List.getElem?_cons_succ, List.getElem?_cons_zero]; rfl) (by kernel_rfl) (by kernel_rfl) (by kernel_rfl) (fun _ _ _ h => h) (Or.inl ⟨by rfl, ?_⟩) (by assumption) ?_
    rotate_left
    · intro w hSw; (try dsimp only at hSw); go_split_ands; go_simp; (try with_reducible rfl)
    (try simp only [Act.put, List.setIfInBounds_toArray, List.set_cons_zero, List.set_cons_succ])
    refine wpAnyH_take (i := 3) (v := ?_) (by simp only [List.getElem?_toArray, List.getElem?_cons_succ, List.getElem?_cons_zero]; rfl) (by kernel_rfl) (by kernel_rfl) (by kernel_rfl) (fun _ _ _ h => h) (Or.inl ⟨by rfl, ?_⟩) (by assumption) ?_
    rotate_left
    · intro w hSw; (try dsimp only at hSw); go_split_ands; go_simp; (try with_reducible rfl)
    (try simp only [Act.put, List.setIfInBounds_toArray, List.set_cons_zero, List.set_cons_succ])
    refine wpAnyH_take (i := 4) (v := ?_) (by simp only [List.getElem?_toArray, List.getElem?_cons_succ, List.getElem?_cons_zero]; rfl) (by kernel_rfl) (by kernel_rfl) (by kernel_rfl) (fun _ _ _ h => h) (Or.inl ⟨by rfl, ?_⟩) (by assumption) ?_
    rotate_left
    · intro w hSw; (try dsimp only at hSw); go_split_ands; go_simp; (try with_reducible rfl)
    (try simp only [Act.put, List.setIfInBounds_toArray, List.set_cons_zero, List.set_cons_succ])
    refine wpAnyH_take (i := 5) (v := ?_) (by simp only [List.getElem?_toArray, List.getElem?_cons_succ, List.getElem?_cons_zero]; rfl) (by kernel_rfl) (by kernel_rfl) (by kernel_rfl) (fun _ _ _ h => h) (Or.inl ⟨by rfl, ?_⟩) (by assumption) ?_
    rotate_left
    · intro w hSw; (try dsimp only at hSw); go_split_ands; go_simp; (try with_reducible rfl)
    (try simp only [Act.put, List.setIfInBounds_toArray, List.set_cons_zero, List.set_cons_succ])
    refine wpAnyH_take (i := 6) (v := ?_) (by simp only [List.getElem?_toArray, List.getElem?_cons_succ, List.getElem?_cons_zero]; rfl) (by kernel_rfl) (by kernel_rfl) (by kernel_rfl) (fun _ _ _ h => h) (Or.inl ⟨by rfl, ?_⟩) (by assumption) ?_
    rotate_left
    · intro w hSw; (try dsimp only at hSw); go_split_ands; go_simp; (try with_reducible rfl)
    (try simp only [Act.put, List.setIfInBounds_toArray, List.set_cons_zero, List.set_cons_succ])
    refine wpAnyH_take (i := 7) (v := ?_) (by simp only [List.getElem?_toArray, List.getElem?_cons_succ, List.getElem?_cons_zero]; rfl) (by kernel_rfl) (by kernel_rfl) (by kernel_rfl) (fun _ _ _ h => h) (Or.inl ⟨by rfl, ?_⟩) (by assumption) ?_
    rotate_left
    · intro w hSw; (try dsimp only at hSw); go_split_ands; go_simp; (try with_reducible rfl)
    (try simp only [Act.put, List.setIfInBounds_toArray, List.set_cons_zero, List.set_cons_succ])
    refine wpAnyH_take (i := 8) (v := ?_) (by simp only [List.getElem?_toArray, List.getElem?_cons_succ, List.getElem?_cons_zero]; rfl) (by kernel_rfl) (by kernel_rfl) (by kernel_rfl) (fun _ _ _ h => h) (Or.inl ⟨by rfl, ?_⟩) (by assumption) ?_
    rotate_left
    · intro w hSw; (try dsimp only at hSw); go_split_ands; go_simp; (try with_reducible rfl)
    (try simp only [Act.put, List.setIfInBounds_toArray, List.set_cons_zero, List.set_cons_succ])
    refine wpAnyH_take (i := 9) (v := ?_) (by simp only [List.getElem?_toArray, List.getElem?_cons_succ, List.getElem?_cons_zero]; rfl) (by kernel_rfl) (by kernel_rfl) (by kernel_rfl) (fun _ _ _ h => h) (Or.inl ⟨by rfl, ?_⟩) (by assumption) ?_
    rotate_left
    · intro w hSw; (try dsimp only at hSw); go_split_ands; go_simp; (try with_reducible rfl)
    (try simp only [Act.put, List.setIfInBounds_toArray, List.set_cons_zero, List.set_cons_succ])
    refine wpAnyH_take (i := 10) (v := ?_) (by simp only [List.getElem?_toArray, List.getElem?_cons_succ, List.getElem?_cons_zero]; rfl) (by kernel_rfl) (by kernel_rfl) (by kernel_rfl) (fun _ _ _ h => h) (Or.inl ⟨by rfl, ?_⟩) (by assumption) ?_
    rotate_left
    · intro w hSw; (try dsimp only at hSw); go_split_ands; go_simp; (try with_reducible rfl)
    (try simp only [Act.put, List.setIfInBounds_toArray, List.set_cons_zero, List.set_cons_succ])
    refine wpAnyH_take (i := 11) (v := ?_) (by simp only [List.getElem?_toArray, List.getElem?_cons_succ, List.getElem?_cons_zero]; rfl) (by kernel_rfl) (by kernel_rfl) (by kernel_rfl) (fun _ _ _ h => h) (Or.inl ⟨by rfl, ?_⟩) (by assumption) ?_
    rotate_left
    · intro w hSw; (try dsimp only at hSw); go_split_ands; go_simp; (try with_reducible rfl)
    (try simp only [Act.put, List.setIfInBounds_toArray, List.set_cons_zero, List.set_cons_succ])
    refine wpAnyH_take (i := 12) (v := undef) (by simp only [List.getElem?_toArray, List.getElem?_cons_succ, List.getElem?_cons_zero]; rfl) (by kernel_rfl) (by kernel_rfl) (by kernel_rfl) (fun _ _ _ h => h) (Or.inr ⟨by rfl, rfl⟩) (by assumption) ?_
    (try simp only [Act.put, List.setIfInBounds_toArray, List.set_cons_zero, List.set_cons_succ])
    refine wpAnyH_take (i := 13) (v := undef) (by simp only [List.getElem?_toArray, List.getElem?_cons_succ, List.getElem?_cons_zero]; rfl) (by kernel_rfl) (by kernel_rfl) (by kernel_rfl) (fun _ _ _ h => h) (Or.inr ⟨by rfl, rfl⟩) (by assumption) ?_
    (try simp only [Act.put, List.setIfInBounds_toArray, List.set_cons_zero, List.set_cons_succ])
    refine wpAnyH_take (i := 14) (v := undef) (by simp only [List.getElem?_toArray, List.getElem?_cons_succ, List.getElem?_cons_zero]; rfl) (by kernel_rfl) (by kernel_rfl) (by kernel_rfl) (fun _ _ _ h => h) (Or.inr ⟨by rfl, rfl⟩) (by assumption) ?_
    (try simp only [Act.put, List.setIfInBounds_toArray, List.set_cons_zero, List.set_cons_succ])
    refine wpAnyH_take (i := 15) (v := undef) (by simp only [List.getElem?_toArray, List.getElem?_cons_succ, List.getElem?_cons_zero]; rfl) (by kernel_rfl) (by kernel_rfl) (by kernel_rfl) (fun _ _ _ h => h) (Or.inr ⟨by rfl, rfl⟩) (by assumption) ?_
    (try simp only [Act.put, List.setIfInBounds_toArray, List.set_cons_zero, List.set_cons_succ])
    refine wpAnyH_take (i := 16) (v := undef) (by simp only [List.getElem?_toArray, List.getElem?_cons_succ, List.getElem?_cons_zero]; rfl) (by kernel_rfl) (by kernel_rfl) (by kernel_rfl) (fun _ _ _ h => h) (Or.inr ⟨by rfl, rfl⟩) (by assumption) ?_
    (try simp only [Act.put, List.setIfInBounds_toArray, List.set_cons_zero, List.set_cons_succ])
    refine wpAnyH_take (i := 17) (v := undef) (by simp only [List.getElem?_toArray, List.getElem?_cons_succ, List.getElem?_cons_zero]; rfl) (by kernel_rfl) (by kernel_rfl) (by kernel_rfl) (fun _ _ _ h => h) (Or.inr ⟨by rfl, rfl⟩) (by assumption) ?_
    (try simp only [Act.put, List.setIfInBounds_toArray, List.set_cons_zero, List.set_cons_succ])
    refine wpAnyH_take (i := 18) (v := undef) (by simp only [List.getElem?_toArray, List.getElem?_cons_succ, List.getElem?_cons_zero]; rfl) (by kernel_rfl) (by kernel_rfl) (by kernel_rfl) (fun _ _ _ h => h) (Or.inr ⟨by rfl, rfl⟩) (by assumption) ?_
    (try simp only [Act.put, List.setIfInBounds_toArray, List.set_cons_zero, List.set_cons_succ])
    refine wpAnyH_take (i := 19) (v := ?_) (by simp only [List.getElem?_toArray, List.getElem?_cons_succ, List.getElem?_cons_zero]; rfl) (by kernel_rfl) (by kernel_rfl) (by kernel_rfl) (fun _ _ _ h => h) (Or.inl ⟨by rfl, ?_⟩) (by assumption) ?_
    rotate_left
    · intro w hSw; (try dsimp only at hSw); go_split_ands; go_simp; (try with_reducible rfl)
    (try simp only [Act.put, List.setIfInBounds_toArray, List.set_cons_zero, List.set_cons_succ])
    refine wpAnyH_take (i := 20) (v := ?_) (by simp only [List.getElem?_toArray, List.getElem?_cons_succ, List.getElem?_cons_zero]; rfl) (by kernel_rfl) (by kernel_rfl) (by kernel_rfl) (fun _ _ _ h => h) (Or.inl ⟨by rfl, ?_⟩) (by assumption) ?_
    rotate_left
    · intro w hSw; (try dsimp only at hSw); go_split_ands; go_simp; (try with_reducible rfl)
    (try simp only [Act.put, List.setIfInBounds_toArray, List.set_cons_zero, List.set_cons_succ])
    refine wpAnyH_take (i := 21) (v := ?_) (by simp only [List.getElem?_toArray, List.getElem?_cons_succ, List.getElem?_cons_zero]; rfl) (by kernel_rfl) (by kernel_rfl) (by kernel_rfl) (fun _ _ _ h => h) (Or.inl ⟨by rfl, ?_⟩) (by assumption) ?_
    rotate_left
    · intro w hSw; (try dsimp only at hSw); go_split_ands; go_simp; (try with_reducible rfl)
    (try simp only [Act.put, List.setIfInBounds_toArray, List.set_cons_zero, List.set_cons_succ])
    refine wpAnyH_ready (rs := [22]) (by kernel_rfl) (by simp) ?_
    refine AllReadyH.cons rfl (fun K hK => ?_) AllReadyH.nil
    go_simp
    refine (lives22_any W6.drew (HWI.out W6.drew HB6D.out)).mono ?_; rintro e w8 ⟨rfl, hb8⟩; have HX8 : Hid (Box w8 w3.heap.size #[.int .i64 k, .string S, .int .i64 a, .int .i64 b, .int .i64 d, .int .i64 q, .int .u32 u, .int .i64 f, .int .i64 g] 41) := Box.below (w := W6.drew) HX6.out hb8 HX6.out.lt; have HY8 : Hid (Box w8 w5.heap.size #[.int .i64 k, .string S, .int .i64 a, .int .i64 b, .int .i64 d, .int .i64 q, .int .u32 u, .int .i64 f, .int .i64 g] 44) := Box.below (w := W6.drew) HY6.out hb8 HY6.out.lt; have HB8 := Lib.hid (HB6D.out.trans (hb8.mono HB6D.out.size)); clear hb8
    go_wp2_with fail
    refine hK.out _ _ ⟨HX8.out.cell 0, HX8.out.cell 1, HX8.out.cell 2, HX8.out.cell 3, HX8.out.cell 4, HX8.out.cell 5, HX8.out.cell 6, HX8.out.cell 7, HX8.out.cell 8, HY8.out.cell 0, HY8.out.cell 1, HY8.out.cell 2, HY8.out.cell 3, HY8.out.cell 4, HY8.out.cell 5, HY8.out.cell 6, HY8.out.cell 7, HY8.out.cell 8⟩ (fun hHeld => ?_)
    clear hK K
    (try simp only [Act.put, List.setIfInBounds_toArray, List.set_cons_zero, List.set_cons_succ])
    refine wpAnyH_take (i := 23) (v := ?_) (by simp only [List.getElem?_toArray, List.getElem?_cons_succ, List.getElem?_cons_zero]; rfl) (by kernel_rfl) (by kernel_rfl) (by kernel_rfl) (fun _ _ _ h => h) (Or.inl ⟨by rfl, ?_⟩) (by assumption) ?_
    rotate_left
    · intro w hSw; (try dsimp only at hSw); go_split_ands; go_simp; (try with_reducible rfl)
    (try simp only [Act.put, List.setIfInBounds_toArray, List.set_cons_zero, List.set_cons_succ])
    refine wpAnyH_take (i := 24) (v := ?_) (by simp only [List.getElem?_toArray, List.getElem?_cons_succ, List.getElem?_cons_zero]; rfl) (by kernel_rfl) (by kernel_rfl) (by kernel_rfl) (fun _ _ _ h => h) (Or.inl ⟨by rfl, ?_⟩) (by assumption) ?_
    rotate_left
    · intro w hSw; (try dsimp only at hSw); go_split_ands; go_simp; (try with_reducible rfl)
    (try simp only [Act.put, List.setIfInBounds_toArray, List.set_cons_zero, List.set_cons_succ])
    refine wpAnyH_done (by kernel_rfl) (NoPanic.normal ?_) _
    go_wp2
    go_ret
    exact ⟨rfl, HB8.out⟩
end Go.Proofs.YtaknladkodibaaaGreatDoor
