/- Layer 13: the reference's Right and Weights. -/
import Derived.Test.YtaknladkodibaaaGreatDoorMgQ12848
import Derived.Test.YtaknladkodibaaaGreatDoorMgQ12810
import Derived.Test.YtaknladkodibaaaGreatDoorMgQ12847
import Derived.Test.YtaknladkodibaaaGreatDoorMgQ12827
import Derived.Test.YtaknladkodibaaaGreatDoorMgQ12830
import Derived.WalkMore
import Derived.Test.YtaknladkodibaaaGreatDoorMgQ12840
import Derived.Test.YtaknladkodibaaaGreatDoorMgQ12805
import Derived.Test.YtaknladkodibaaaGreatDoorMgQ12846
import Derived.Test.YtaknladkodibaaaGreatDoorMgQ12825
import Derived.Test.YtaknladkodibaaaGreatDoorMgQ12845
import Derived.Deep.RegionLaw
import Derived.Deep.RegionHeld3
namespace Go.Proofs.YtaknladkodibaaaGreatDoor
open Go.RowKit BitsP SymP
attribute [local go_sem ↓] Go.wp_at_zero Go.wp_at_succ

end Go.Proofs.YtaknladkodibaaaGreatDoor
/- Layer 13: tokens that come in: those that may be, up to the first one that may not. -/
namespace Go.Proofs.YtaknladkodibaaaGreatDoor
open Go.RowKit BitsP SymP

/-- The tokens ahead of the first one that may not be. -/
def ToksOf (w : World) (A : Option Addr) (l : Nat) (ts : List Tk) : Prop :=
  (∀ t ∈ ts, okT t) ∧ (∀ k t, ts[k]? = some t → TkAt w A k (t.1.toNat : Int) (t.2.1 : Int) (t.2.2 : Int)) ∧ (ts.length = l ∨ (ts.length < l ∧ ∃ y ln d, TkAt w A ts.length y ln d ∧ rightT y ln d = false))
theorem ToksOf.below {w W : World} {A : Option Addr} {l : Nat} {ts : List Tk} (h : ToksOf w A l ts) (hb : Below w.heap.size w W) : ToksOf W A l ts :=
  ⟨h.1, fun k t ht => (h.2.1 k t ht).below hb, h.2.2.imp id fun ⟨h1, y, ln, d, h2, h3⟩ => ⟨h1, y, ln, d, h2.below hb, h3⟩⟩
section
variable {A : Option Addr} {l c : Nat} {ts : List Tk} {w : World}
end
end Go.Proofs.YtaknladkodibaaaGreatDoor
/- Layer 13: a class is taken. -/
namespace Go.Proofs.YtaknladkodibaaaGreatDoor
open Go.RowKit BitsP SymP

end Go.Proofs.YtaknladkodibaaaGreatDoor
/- Layer 13: both tables are taken. -/
namespace Go.Proofs.YtaknladkodibaaaGreatDoor
open Go.RowKit BitsP SymP

/-- Two alphabets' cells. -/
def alC (a : Value) (n : Int) (b : Value) (m : Int) : Array Value := #[a, .int .i64 n, b, .int .i64 m]
end Go.Proofs.YtaknladkodibaaaGreatDoor
/- Layer 13: tokens are taken. -/
namespace Go.Proofs.YtaknladkodibaaaGreatDoor
open Go.RowKit BitsP SymP

/-- A token's cells. -/
def tcC (t : Tk) : List Value := [.int .u8 (t.1.toNat : Int), .int .i64 (t.2.1 : Int), .int .i64 (t.2.2 : Int)]
/-- What the loop keeps: the tokens, the reader, the alphabets. -/
structure TsI (w W : World) (r base : Nat) (S : Nat → Prop) (bs : List UInt8) (p ga gb : Nat) (v : Value) (ts : List Tk) : Prop where
  row : W.ownsRow (w.heap.size + 1) 164 3 v ts.length (ts.flatMap tcC)
  rd : RdS W r base S bs p
  mod : Mod (oneB r) w W
  box : W.heap[w.heap.size]? = some (.cells (alC (.pointer (some ⟨ga, 0, none⟩)) 257 (.pointer (some ⟨gb, 0, none⟩)) 0) 251 (0, 0))
section
variable {w W W' : World} {r base p p' ga gb : Nat} {S : Nat → Prop} {bs : List UInt8} {v v' : Value} {ts ts' : List Tk}
theorem TsI.part (h : TsI w W r base S bs p ga gb v ts) (hr : r < w.heap.size) (hm : Mod (oneB r) W W') (hrd : RdS W' r base S bs p') : TsI w W' r base S bs p' ga gb v ts :=
  ⟨own_keep h.row hm (fun k hk hs => by have h2 : k = r := hs; have := own_base h.row k hk; omega), hrd, h.mod.then_ hm, hm.keep h.box (fun hs => by have h2 : w.heap.size = r := hs; omega)⟩
theorem TsI.below (h : TsI w W r base S bs p ga gb v ts) (hb : Below W.heap.size W W') : TsI w W' r base S bs p ga gb v ts :=
  ⟨own_keep h.row (Mod.of_below hb) (fun _ _ h => h), h.rd.keep (Mod.of_below hb) (fun _ _ h => h), h.mod.then_ ((Mod.of_below hb).mono fun _ h => h.elim), (hb.block _ (Array.getElem?_eq_some_iff.1 h.box).1).trans h.box⟩
/-- A block that is none of these changes. -/
theorem TsI.other {g : Nat} (h : TsI w W r base S bs p ga gb v ts) (hSL : ∀ k, S k → k < w.heap.size) (hg : w.heap.size < g) (hv : v.ownBlock ≠ some g) (hm : Mod (oneB g) W W') : TsI w W' r base S bs p ga gb v ts :=
  ⟨own_keep h.row hm (fun k hk hs => by have h2 : k = g := hs; exact hv (h2 ▸ hk)), h.rd.keep hm (fun k hk hs => by have h2 : k = g := hs; have := hSL k hk; omega), h.mod.trans hm (fun k hs => .inr (by have h2 : k = g := hs; omega)), hm.keep h.box (fun hs => by have h2 : w.heap.size = g := hs; omega)⟩
theorem TsI.app {m : Nat} {xs : List Value} (h : TsI w W r base S bs p ga gb v ts) (hSL : ∀ k, S k → k < w.heap.size) (ha : App W (w.heap.size + 1) 164 3 v m xs W' v') (hm : m = ts'.length) (hx : xs = ts'.flatMap tcC) : TsI w W' r base S bs p ga gb v' ts' := by
  subst hm hx
  exact ⟨ha.own, h.rd.keep (Mod.of_app ha) (fun k hk hs => by have := hSL k hk; have := own_base h.row k hs; omega), h.mod.trans (Mod.of_app ha) (fun k hk => .inr (by have := own_base h.row k hk; omega)), (Mod.of_app ha).keep h.box (fun hk => by have := own_base h.row _ hk; omega)⟩
end
/-- A row in memory. -/
def RowB (W : World) (R : Nat) (c1 c2 : Nat × Nat × Nat) (m : Bool) : Prop := W.heap[R]? = some (.cells #[.int .i64 (c1.1 : Int), .int .i64 (c1.2.1 : Int), .int .u32 (c1.2.2 : Int), .int .i64 (c2.1 : Int), .int .i64 (c2.2.1 : Int), .int .u32 (c2.2.2 : Int), .bool m] 168 (0, 0))
theorem RowB.first {W : World} {R : Nat} {c1 c2 : Nat × Nat × Nat} {m : Bool} (h : RowB W R c1 c2 m) (c : Nat × Nat × Nat) : RowB (((W.setCell ⟨R, 0, none⟩ (.int .i64 (c.1 : Int))).setCell ⟨R, 1, none⟩ (.int .i64 (c.2.1 : Int))).setCell ⟨R, 2, none⟩ (.int .u32 (c.2.2 : Int))) R c c2 m :=
  heap_setCell_same _ R 2 _ _ _ (heap_setCell_same _ R 1 _ _ _ (heap_setCell_same W R 0 _ _ _ h))
theorem RowB.second {W : World} {R : Nat} {c1 c2 : Nat × Nat × Nat} {m : Bool} (h : RowB W R c1 c2 m) (c : Nat × Nat × Nat) : RowB (((W.setCell ⟨R, 3, none⟩ (.int .i64 (c.1 : Int))).setCell ⟨R, 4, none⟩ (.int .i64 (c.2.1 : Int))).setCell ⟨R, 5, none⟩ (.int .u32 (c.2.2 : Int))) R c1 c m :=
  heap_setCell_same _ R 5 _ _ _ (heap_setCell_same _ R 4 _ _ _ (heap_setCell_same W R 3 _ _ _ h))
end Go.Proofs.YtaknladkodibaaaGreatDoor
/- Layer 13: tokens of bytes in memory; a fresh writer. -/
namespace Go.Proofs.YtaknladkodibaaaGreatDoor
open Go.RowKit BitsP SymP

theorem toksOf_tk {w : World} {A : Option Addr} {ts : List Tk} (h : ∀ t ∈ ts, okT t) (hc : Cells w w.heap.size A (ts.map tkC).flatten) : ToksOf w A ts.length ts := by
  refine ⟨h, fun k t ht => ?_, .inl rfl⟩
  have c0 := code_at (tkC_len ts) (j := 0) ht rfl
  have c1 := code_at (tkC_len ts) (j := 1) ht rfl
  have c2 := code_at (tkC_len ts) (j := 2) ht rfl
  obtain ⟨b, o, h1, h2, h3⟩ := hc (by have := (List.getElem?_eq_some_iff.1 c0).1; omega)
  exact ⟨b, o, h1, h2, h3 _ _ c0, by have h4 := h3 _ _ c1; rw [← Nat.add_assoc] at h4; exact h4, by have h4 := h3 _ _ c2; rw [← Nat.add_assoc] at h4; exact h4⟩
end Go.Proofs.YtaknladkodibaaaGreatDoor
/- Layer 9: the reference's Put. -/
namespace Go.Proofs.YtaknladkodibaaaGreatDoor
open Go.RowKit BitsP
attribute [local go_sem ↓] Go.wp_at_zero Go.wp_at_succ

theorem own_leP {w : World} {base base' : Nat} {e : TypeId} {size n : Nat} {v : Value} {xs : List Value} (h : w.ownsRow base e size v n xs) (hb : base' ≤ base) : w.ownsRow base' e size v n xs := by
  obtain ⟨h1, h2⟩ := h
  refine ⟨h1, ?_⟩
  rcases h2 with h2 | ⟨g, c, cur, hv, hg, h3⟩
  · exact .inl h2
  · exact .inr ⟨g, c, cur, hv, Nat.le_trans hb hg, h3⟩
end Go.Proofs.YtaknladkodibaaaGreatDoor
/- Layer 13: the reference's bits of a symbol, and what is behind it. -/
namespace Go.Proofs.YtaknladkodibaaaGreatDoor
open Go.RowKit BitsP SymP
attribute [local go_sem ↓] Go.wp_at_zero Go.wp_at_succ

end Go.Proofs.YtaknladkodibaaaGreatDoor
/- Layer 13: the reference's Put. -/
namespace Go.Proofs.YtaknladkodibaaaGreatDoor
open Go.RowKit BitsP SymP
attribute [local go_sem ↓] Go.wp_at_zero Go.wp_at_succ

end Go.Proofs.YtaknladkodibaaaGreatDoor
/- Layer 14: a payload is made. -/
namespace Go.Proofs.YtaknladkodibaaaGreatDoor
open Go.RowKit BitsP SymP
attribute [local go_sem ↓] Go.wp_at_zero Go.wp_at_succ

/-- What a payload is packed to, and what it is: method and bytes. -/
def pkB (lv : Int) (bs : List UInt8) : List UInt8 := pack (blkB (toks bs lv 0))
def pkM (lv : Int) (bs : List UInt8) : Int × List UInt8 := if lv < 0 then (0, bs) else if (pkB lv bs).length < bs.length then (1, pkB lv bs) else (0, bs)
theorem tkAt_wr {w : World} {A : Option Addr} {k q : Nat} {y l d : Int} (h : TkAt w A k y l d) (hq : w.heap[q]? = some (.cells zeroWr 114 (0, 0))) : ∀ a, A = some a → a.block ≠ q := fun a ha he => by
  obtain ⟨b, o, h1, _, h3, _⟩ := h
  rw [h1] at ha
  cases ha
  have hb : b = q := he
  subst hb
  rw [show w.cell? ⟨b, o + k * 3, none⟩ = zeroWr[o + k * 3]? from cell_of_row w b (o + k * 3) _ _ _ hq] at h3
  generalize o + k * 3 = m at h3
  match m, h3 with
  | 0, h3 => simp [zeroWr] at h3
  | 1, h3 => simp [zeroWr] at h3
  | 2, h3 => simp [zeroWr] at h3
  | m + 3, h3 => simp [zeroWr] at h3
set_option maxRecDepth 100000 in
set_option maxHeartbeats 1000000 in
theorem pack14_any (A : Option Addr) (l c : Nat) (bs : List UInt8) (lv : Int) (w : World) (hl : bs.length = l) (hm : l ≤ 32000) (hcap : l ≤ c) (hb : Bytes w w.heap.size A bs) :
    Calls Tryz.prog 31 #[.slice A l c, .int .i64 lv] w fun e w' => ∃ A' c', e = .returned (.tuple #[.int .i64 (pkM lv bs).1, .slice A' (pkM lv bs).2.length c', .int .i64 0]) ∧ OwnB w' w.heap.size 5 (.slice A' (pkM lv bs).2.length c') (pkM lv bs).2.length (pkM lv bs).2 ∧ Below w.heap.size w w' := by
  have t0 : decide ((65536 : Int) < (l : Int)) = false := decide_eq_false (by omega)
  have HLL := Lib.hid hl
  by_cases hlv : lv < 0
  · have HE : Hid (pkM lv bs = (0, bs)) := by show _ = _; unfold pkM; rw [if_pos hlv]
    have HC := Lib.hid (clone_any A l c w.heap.size bs w hl (by omega) (Nat.le_refl _) hb)
    have t1 : decide (0 ≤ lv) = false := decide_eq_false (by omega)
    rw [HE.out]
    dsimp only
    rw [hl]
    clear hl hb hlv
    go_enter Tryz.func31, Tryz.ntmps31
    go_wp2_with (go_at_call 68; refine HC.out.mono ?_; rintro e w2 ⟨A2, c2, rfl, hown2, hb2⟩; have HO2 := Lib.hid hown2; have HB2 := Lib.hid hb2; clear hown2 hb2)
    exact bodyPost_ret (results_tmp3 rfl _ _ _) rfl ⟨A2, c2, rfl, HO2.out, HB2.out⟩
  · have t1 : decide (0 ≤ lv) = true := decide_eq_true (by omega)
    have hok := toks_okT bs lv bs.length 0 (by omega)
    have hfew := toks_few bs lv
    have hb1 : Below w.heap.size w (w.alloc (.cells zeroWr 114)) := (Below.refl _ w).alloc (Nat.le_refl _) _
    have HB1 := Lib.hid hb1
    have HSP := Lib.hid (split_any A l c bs lv (w.alloc (.cells zeroWr 114)) hl hm hcap ((hb.below hb1 (Nat.le_refl _)).more hb1.size))
    have HWZ : Hid (∀ W, Below (w.alloc (.cells zeroWr 114)).heap.size (w.alloc (.cells zeroWr 114)) W → W.heap[w.heap.size]? = some (.cells zeroWr 114 (0, 0))) := fun W hW => (hW.block _ (by simp)).trans (heap_alloc_new w _)
    obtain ⟨ts, hts⟩ : ∃ ts, toks bs lv 0 = ts := ⟨_, rfl⟩
    have HPE : Hid (pkB lv bs = pack (blkB ts)) := by show _ = _; rw [pkB, hts]
    rw [hts] at hok hfew HSP
    have hfewB := blkB_few hok
    have HPT : Hid (∀ (W : World) (A2 : Option Addr) (c2 : Nat), Cells W W.heap.size A2 (ts.map tkC).flatten → Below (w.alloc (.cells zeroWr 114)).heap.size (w.alloc (.cells zeroWr 114)) W → _) := fun W A2 c2 hc hW =>
      blkput_any A2 ts.length c2 w.heap.size w.heap.size ts (oneB w.heap.size) [] W rfl (by omega) hok (toksOf_tk hok hc).2.1 (fun h0 a ha hk => by
        obtain ⟨t, ht⟩ : ∃ t, ts[0]? = some t := ⟨_, List.getElem?_eq_getElem h0⟩
        exact tkAt_wr ((toksOf_tk hok hc).2.1 0 t ht) (HWZ.out W hW) a ha hk) (WrS.zero _ (HWZ.out W hW)) (by simp) (by have := hW.size; simp at this; omega)
    have hPL : (pack (blkB ts)).length ≤ (blkB ts).length := pack_length _
    obtain ⟨P, hP⟩ : ∃ P, pack (blkB ts) = P := ⟨_, rfl⟩
    have HPP := Lib.hid hP
    rw [hP] at HPE hPL
    have hpl : P.length ≤ 3000000 := by omega
    have hbl : (blkB ts).length ≤ 3000000 := by omega
    have HBLL := Lib.hid hbl
    obtain ⟨k, hk⟩ : ∃ k, ts.length = k := ⟨_, rfl⟩
    rw [hk] at HSP HPT
    obtain ⟨pl, hpl2⟩ : ∃ pl, P.length = pl := ⟨_, rfl⟩
    have HPL := Lib.hid hpl2
    rw [hpl2] at hpl
    have HC : Hid (∀ W, Below w.heap.size w W → _) := fun W hW => clone_any A l c W.heap.size bs W hl (by omega) (Nat.le_refl _) ((hb.below hW (Nat.le_refl _)).more hW.size)
    unfold zeroWr at HSP HPT HB1
    by_cases hlt : pl < l
    · have HE : Hid (pkM lv bs = (1, P)) := by show _ = _; unfold pkM; rw [if_neg hlv, HPE.out, if_pos (by rw [HPL.out, HLL.out]; exact hlt)]
      rw [HE.out]
      dsimp only
      rw [HPL.out]
      have t2 : decide ((pl : Int) < (l : Int)) = true := decide_eq_true (by omega)
      have t2n : decide (pl < l) = true := decide_eq_true hlt
      clear hl hb hlv hok hfew hb1 hts hfewB hP hk hpl2 hlt hPL hbl
      go_enter Tryz.func31, Tryz.ntmps31
      go_wp2_with (first
        | (go_at_call 66; refine HSP.out.mono ?_; rintro e w2 ⟨A2, c2, rfl, hc2, hb2⟩; have HB2 := Lib.hid (HB1.out.trans (hb2.mono HB1.out.size)); have HPU := Lib.hid (HPT.out w2 A2 c2 hc2 hb2); rw [List.nil_append] at HPU; clear hc2 hb2)
        | (go_at_call 65; refine HPU.out.mono ?_; rintro e w3 ⟨rfl, S3, hw3, hm3, hs3⟩; have HW3 := Lib.hid hw3; have HB3 := Lib.hid (hm3.below HB2.out HB2.out.size (fun k hk => by cases hk; exact Nat.le_refl _)); clear hw3 hm3 hs3)
        | (go_at_call 67; refine (wbytes_any w.heap.size w.heap.size S3 (blkB ts) w3 HW3.out (by have := HBLL.out; omega)).mono ?_; rintro e w5 ⟨A5, c5, rfl, hown, hbel⟩; rw [HPP.out, HPL.out] at hown; rw [HPP.out, HPL.out]; have HO5 := Lib.hid (own_leP hown HB3.out.size); have HB5 := Lib.hid (HB3.out.trans (hbel.mono HB3.out.size)); clear hown hbel))
      exact bodyPost_ret (results_tmp3 rfl _ _ _) rfl ⟨A5, c5, rfl, HO5.out, HB5.out⟩
    · have HE : Hid (pkM lv bs = (0, bs)) := by show _ = _; unfold pkM; rw [if_neg hlv, HPE.out, if_neg (by rw [HPL.out, HLL.out]; exact hlt)]
      rw [HE.out]
      dsimp only
      rw [HLL.out]
      have t2 : decide ((pl : Int) < (l : Int)) = false := decide_eq_false (by omega)
      have t2n : decide (pl < l) = false := decide_eq_false hlt
      clear hl hb hlv hok hfew hb1 hts hfewB hP hk hpl2 hlt hPL hbl
      go_enter Tryz.func31, Tryz.ntmps31
      go_wp2_with (first
        | (go_at_call 66; refine HSP.out.mono ?_; rintro e w2 ⟨A2, c2, rfl, hc2, hb2⟩; have HB2 := Lib.hid (HB1.out.trans (hb2.mono HB1.out.size)); have HPU := Lib.hid (HPT.out w2 A2 c2 hc2 hb2); rw [List.nil_append] at HPU; clear hc2 hb2)
        | (go_at_call 65; refine HPU.out.mono ?_; rintro e w3 ⟨rfl, S3, hw3, hm3, hs3⟩; have HW3 := Lib.hid hw3; have HB3 := Lib.hid (hm3.below HB2.out HB2.out.size (fun k hk => by cases hk; exact Nat.le_refl _)); clear hw3 hm3 hs3)
        | (go_at_call 67; refine (wbytes_any w.heap.size w.heap.size S3 (blkB ts) w3 HW3.out (by have := HBLL.out; omega)).mono ?_; rintro e w5 ⟨A5, c5, rfl, hown, hbel⟩; rw [HPP.out, HPL.out]; have HB5 := Lib.hid (HB3.out.trans (hbel.mono HB3.out.size)); clear hown hbel)
        | (go_at_call 68; refine (HC.out _ HB5.out).mono ?_; rintro e w6 ⟨A6, c6, rfl, hown6, hb6⟩; have HO6 := Lib.hid (own_leP hown6 HB5.out.size); have HB6 := Lib.hid (HB5.out.trans (hb6.mono HB5.out.size)); clear hown6 hb6))
      exact bodyPost_ret (results_tmp3 rfl _ _ _) rfl ⟨A6, c6, rfl, HO6.out, HB6.out⟩
end Go.Proofs.YtaknladkodibaaaGreatDoor
