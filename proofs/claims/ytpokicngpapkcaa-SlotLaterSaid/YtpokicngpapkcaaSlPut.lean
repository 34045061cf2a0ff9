/- Layer 21: slots are put. -/
import Derived.Test.YtpokicngpapkcaaSl
import Derived.Lib.SmallJoins
import Derived.Deep.RegionHeld3
import Derived.Deep.DrawnRows
import Derived.Deep.LoopGhost
import Derived.StillTailTactics
import Derived.Deep.RegionLaw
namespace Go.Proofs.Ytpokicngpapkcaa
open Go.RowKit CrcP FieldP
attribute [local go_sem ↓] Go.wp_at_zero Go.wp_at_succ

def slMark : List UInt8 := [83, 76, 79, 84]
def flagN (c : Bool) : Nat := if c = true then 1 else 0
/-- A slot's bytes ahead of the sum; with it; all. -/
def slM (q e d : Nat) (c : Bool) : List UInt8 := slMark ++ putN q 4 ++ putN e 4 ++ putN d 4 ++ putN (flagN c) 1
def slotB (q e d : Nat) (c : Bool) : List UInt8 := sealed (slM q e d c) ++ List.replicate 491 0
theorem slM_length (q e d : Nat) (c : Bool) : (slM q e d c).length = 17 := by unfold slM; simp [putN_length, slMark]
theorem slotB_length (q e d : Nat) (c : Bool) : (slotB q e d c).length = 512 := by unfold slotB; rw [List.length_append, sealed_length, slM_length, List.length_replicate]
theorem zeros_cells : List.replicate 491 (Value.int .u8 0) = byteCells (List.replicate 491 0) := by unfold byteCells; rw [List.map_replicate]; rfl

set_option maxHeartbeats 400000 in
theorem slPut_no (g : Nat) (q e d : Int) (c : Bool) (w : World) (h : slB q e d c = false) : Calls Try.prog 8 #[.pointer (some ⟨g, 0, none⟩), .agg #[.int .i64 q, .int .i64 e, .int .i64 d, .bool c]] w fun x w' => x = .returned (.tuple #[.slice none 0 0, .int .i64 1]) ∧ Below w.heap.size w w' := by
  have HB0 := Lib.hid ((Below.refl w.heap.size w).alloc (Nat.le_refl _) (.cells (slC q e d c) 23))
  have HR := Lib.hid (slRight_any q e d c (w.alloc (.cells (slC q e d c) 23)))
  rw [h] at HR
  unfold slC at *
  clear h
  go_enter Try.func8, Try.ntmps8
  go_wp2_with (go_at_call 10; refine HR.out.mono ?_; rintro e w1 ⟨rfl, rfl⟩)
  go_ret2
  exact ⟨rfl, HB0.out.alloc HB0.out.size _⟩

set_option maxRecDepth 100000 in
set_option maxHeartbeats 2000000 in
theorem slPut_yes (g : Nat) (q e d : Nat) (c : Bool) (w : World) (h : slB q e d c = true) (hT : Table w g) : Calls Try.prog 8 #[.pointer (some ⟨g, 0, none⟩), .agg #[.int .i64 (q : Int), .int .i64 (e : Int), .int .i64 (d : Int), .bool c]] w fun x w' =>
    ∃ A k, x = .returned (.tuple #[.slice A 512 k, .int .i64 0]) ∧ OwnY w' w.heap.size (.slice A 512 k) 512 (slotB q e d c) ∧ Below w.heap.size w w' := by
  have hp : slP q e d c := of_decide_eq_true h
  obtain ⟨p1, p2, p3, p4, p5⟩ := hp
  have hd4 : (d : Int) < 4294967296 := by
    cases c with
    | true => simp at p5; omega
    | false => simp at p5; omega
  clear p5
  have HR := Lib.hid (fun W => slRight_any (q : Int) (e : Int) (d : Int) c W)
  rw [h] at HR
  unfold slC at *
  obtain ⟨w0, hw0⟩ : ∃ w0, w.alloc (.cells #[.int .i64 (q : Int), .int .i64 (e : Int), .int .i64 (d : Int), .bool c] 23) = w0 := ⟨_, rfl⟩
  have HB0 : Hid (Below w.heap.size w w0) := by rw [← hw0]; exact (Below.refl w.heap.size w).alloc (Nat.le_refl _) _
  have HX0 : Hid (Box w0 w.heap.size #[.int .i64 (q : Int), .int .i64 (e : Int), .int .i64 (d : Int), .bool c] 23) := by rw [← hw0]; exact heap_alloc_new w _
  have HT0 : Hid (Table w0 g) := by rw [← hw0]; exact hT.alloc _
  have htl := hT.lt
  have HTW : Hid (Table w g) := hT
  have HD : Hid (slotB q e d c = sealed (slM q e d c) ++ List.replicate 491 0) := rfl
  have HM : Hid (slM q e d c = slMark ++ putN q 4 ++ putN e 4 ++ putN d 4 ++ putN (flagN c) 1) := rfl
  have wq : IntKind.u32.wrap (q : Int) = q := IntWalk.u32_in _ (by omega)
  have we : IntKind.u32.wrap (e : Int) = e := IntWalk.u32_in _ (by omega)
  have wd : IntKind.u32.wrap (d : Int) = d := IntWalk.u32_in _ (by omega)
  have i0 : ∀ w, (Instr.index 50 (.agg #[.int .i64 (q : Int), .int .i64 (e : Int), .int .i64 (d : Int)]) (.int .i64 0)).run Try.prog w = .ok (.int .i64 (q : Int)) w := fun _ => by kernel_rfl
  have i1 : ∀ w, (Instr.index 50 (.agg #[.int .i64 (q : Int), .int .i64 (e : Int), .int .i64 (d : Int)]) (.int .i64 1)).run Try.prog w = .ok (.int .i64 (e : Int)) w := fun _ => by kernel_rfl
  have i2 : ∀ w, (Instr.index 50 (.agg #[.int .i64 (q : Int), .int .i64 (e : Int), .int .i64 (d : Int)]) (.int .i64 2)).run Try.prog w = .ok (.int .i64 (d : Int)) w := fun _ => by kernel_rfl
  have x0 : w0.cell? ⟨w.heap.size, 0, none⟩ = some (.int .i64 (q : Int)) := HX0.out.cell 0
  have x1 : w0.cell? ⟨w.heap.size, 1, none⟩ = some (.int .i64 (e : Int)) := HX0.out.cell 1
  have x2 : w0.cell? ⟨w.heap.size, 2, none⟩ = some (.int .i64 (d : Int)) := HX0.out.cell 2
  have x3 : w0.cell? ⟨w.heap.size, 3, none⟩ = some (.bool c) := HX0.out.cell 3
  clear h hT
  go_enter Try.func8, Try.ntmps8
  go_wp2_with fail
  refine (HR.out _).mono ?_
  rintro x w1 ⟨rfl, hw1⟩
  have HB1 : Hid (Below w.heap.size w w1) := by rw [← hw1]; exact HB0.out.alloc HB0.out.size _
  have HX1 : Hid (Box w1 w.heap.size #[.int .i64 (q : Int), .int .i64 (e : Int), .int .i64 (d : Int), .bool c] 23) := by rw [← hw1]; exact HX0.out.alloc _
  have HT1 : Hid (Table w1 g) := by rw [← hw1]; exact HT0.out.alloc _
  clear hw1 x0 x1 x2 x3 hw0
  have x0 : w1.cell? ⟨w.heap.size, 0, none⟩ = some (.int .i64 (q : Int)) := HX1.out.cell 0
  have x1 : w1.cell? ⟨w.heap.size, 1, none⟩ = some (.int .i64 (e : Int)) := HX1.out.cell 1
  have x2 : w1.cell? ⟨w.heap.size, 2, none⟩ = some (.int .i64 (d : Int)) := HX1.out.cell 2
  have x3 : w1.cell? ⟨w.heap.size, 3, none⟩ = some (.bool c) := HX1.out.cell 3
  have kc := fun (C : Array Value) (n k : Nat) => Joins.run_convert_bytes_const_at (P := Try.prog) w1 28 5 C n k w1.heap.size rfl Try.underlying28 Try.underlying5
  have HO2 := Lib.hid (own_of_const w1 (base := w.heap.size) (e := 5) (C := #[.int .u8 83, .int .u8 76, .int .u8 79, .int .u8 84]) (fz := (4, 5)) (n := 4) (xs := byteCells slMark) rfl rfl HB1.out.size (by unfold maxLen; omega) (by simp))
  obtain ⟨w2, hw2⟩ : ∃ w2, w1.alloc (.cells #[.int .u8 83, .int .u8 76, .int .u8 79, .int .u8 84] 5 (4, 5)) = w2 := ⟨_, rfl⟩
  have HB2 : Hid (Below w.heap.size w w2) := by rw [← hw2]; exact HB1.out.alloc HB1.out.size _
  have HX2 : Hid (Box w2 w.heap.size #[.int .i64 (q : Int), .int .i64 (e : Int), .int .i64 (d : Int), .bool c] 23) := by rw [← hw2]; exact HX1.out.alloc _
  have HT2 : Hid (Table w2 g) := by rw [← hw2]; exact HT1.out.alloc _
  rw [hw2] at HO2
  have HOB : Hid (∃ A k, (Value.slice (some ⟨w1.heap.size, 0, none⟩) 4 4) = .slice A 4 k ∧ OwnY w2 (w.heap.size + 1) (.slice A 4 k) 4 slMark) := ⟨_, _, rfl, by
    have := own_of_const w1 (base := w.heap.size + 1) (e := 5) (C := #[.int .u8 83, .int .u8 76, .int .u8 79, .int .u8 84]) (fz := (4, 5)) (n := 4) (xs := byteCells slMark) rfl rfl HX1.out.lt (by unfold maxLen; omega) (by simp)
    rw [hw2] at this
    exact this⟩
  have y0 : w2.cell? ⟨w.heap.size, 0, none⟩ = some (.int .i64 (q : Int)) := HX2.out.cell 0
  have y1 : w2.cell? ⟨w.heap.size, 1, none⟩ = some (.int .i64 (e : Int)) := HX2.out.cell 1
  have y2 : w2.cell? ⟨w.heap.size, 2, none⟩ = some (.int .i64 (d : Int)) := HX2.out.cell 2
  clear HO2
  go_wp2_with fail
  clear kc x0 x1 x2 x3 y0 y1 y2 hw2
  go_loopg [6, 8, 22] 3 (fun gk v _ i wr => ∃ (A : Option Addr) (l k : Nat) (bs : List UInt8), v = .slice A l k ∧ OwnY wr (w.heap.size + 1) (.slice A l k) l bs ∧ Below w.heap.size w wr ∧ Box wr w.heap.size #[.int .i64 (q : Int), .int .i64 (e : Int), .int .i64 (d : Int), .bool c] 23 ∧ ((gk = 3 ∧ i = .int .i64 0 ∧ l = 4 ∧ bs = slMark) ∨ (gk = 2 ∧ i = .int .i64 1 ∧ l = 8 ∧ bs = slMark ++ putN q 4) ∨ (gk = 1 ∧ i = .int .i64 2 ∧ l = 12 ∧ bs = slMark ++ putN q 4 ++ putN e 4) ∨ (gk = 0 ∧ i = .int .i64 3 ∧ l = 16 ∧ bs = slMark ++ putN q 4 ++ putN e 4 ++ putN d 4)))
  case atStart =>
    obtain ⟨A, k, e1, h1⟩ := HOB.out
    exact ⟨A, 4, k, _, e1, h1, HB2.out, HX2.out, .inl ⟨rfl, rfl, rfl, rfl⟩⟩
  case round =>
    obtain ⟨A, l, k, bs, rfl, ho, hb, hx, hc⟩ := hrel
    clear HB2 HX2 HT2 HOB HB1 HX1 HT1 HB0 HX0
    have HO := Lib.hid ho
    have HB := Lib.hid hb
    have HX := Lib.hid hx
    have hxl := hx.lt
    clear ho hb hx
    rcases hc with hc | hc | hc | hc
    · obtain ⟨rfl, rfl, rfl, rfl⟩ := hc
      have HP := Lib.hid (put_any (.slice A 4 k) 4 _ (q : Int) 4 (w.heap.size + 1) wr (by omega) (by omega) (by omega) (by omega) (by omega) HO.out hxl)
      go_wp2_with (go_at_call 21; refine HP.out.mono ?_; rintro x w3 ⟨A3, c3, rfl, happ⟩; have HA := Lib.hid happ; clear happ)
      go_roundg 2
      case measure => omega
      case rel =>
        have ho := HA.out.own
        rw [Int.toNat_natCast] at ho
        have hm := HA.out.mod
        refine ⟨A3, 8, c3, _, rfl, ho, HA.out.below HB.out HB.out.size (fun k hk => by have := (HO.out.lt k hk).1; omega), Box.mod HX.out hm (fun hk => by have := (HO.out.lt _ hk).1; omega), .inr (.inl ⟨rfl, rfl, rfl, by first | rfl | (simp only [List.append_assoc]; rfl)⟩)⟩
    · obtain ⟨rfl, rfl, rfl, rfl⟩ := hc
      have HP := Lib.hid (put_any (.slice A 8 k) 8 _ (e : Int) 4 (w.heap.size + 1) wr (by omega) (by omega) (by omega) (by omega) (by omega) HO.out hxl)
      go_wp2_with (go_at_call 21; refine HP.out.mono ?_; rintro x w3 ⟨A3, c3, rfl, happ⟩; have HA := Lib.hid happ; clear happ)
      go_roundg 1
      case measure => omega
      case rel =>
        have ho := HA.out.own
        rw [Int.toNat_natCast] at ho
        have hm := HA.out.mod
        refine ⟨A3, 12, c3, _, rfl, ho, HA.out.below HB.out HB.out.size (fun k hk => by have := (HO.out.lt k hk).1; omega), Box.mod HX.out hm (fun hk => by have := (HO.out.lt _ hk).1; omega), .inr (.inr (.inl ⟨rfl, rfl, rfl, by first | rfl | (simp only [List.append_assoc]; rfl)⟩))⟩
    · obtain ⟨rfl, rfl, rfl, rfl⟩ := hc
      have HP := Lib.hid (put_any (.slice A 12 k) 12 _ (d : Int) 4 (w.heap.size + 1) wr (by omega) (by omega) (by omega) (by omega) (by omega) HO.out hxl)
      go_wp2_with (go_at_call 21; refine HP.out.mono ?_; rintro x w3 ⟨A3, c3, rfl, happ⟩; have HA := Lib.hid happ; clear happ)
      go_roundg 0
      case measure => omega
      case rel =>
        have ho := HA.out.own
        rw [Int.toNat_natCast] at ho
        have hm := HA.out.mod
        refine ⟨A3, 16, c3, _, rfl, ho, HA.out.below HB.out HB.out.size (fun k hk => by have := (HO.out.lt k hk).1; omega), Box.mod HX.out hm (fun hk => by have := (HO.out.lt _ hk).1; omega), .inr (.inr (.inr ⟨rfl, rfl, rfl, by first | rfl | (simp only [List.append_assoc]; rfl)⟩))⟩
    · obtain ⟨rfl, rfl, rfl, rfl⟩ := hc
      have x3 : wr.cell? ⟨w.heap.size, 3, none⟩ = some (.bool c) := HX.out.cell 3
      have HF : Hid (flagN c = if c = true then 1 else 0) := rfl
      have HPB := Lib.hid (fun W A3 c3 (happ : AppB wr (w.heap.size + 1) (.slice A 16 k) (16 + cnt 1) (slMark ++ putN q 4 ++ putN e 4 ++ putN d 4 ++ putN (flagN c) (cnt 1)) W (.slice A3 (16 + cnt 1) c3)) =>
        (⟨happ.own, happ.below HB.out HB.out.size (fun k hk => by have := (HO.out.lt k hk).1; omega)⟩ : OwnY W (w.heap.size + 1) (.slice A3 17 c3) 17 (slM q e d c) ∧ Below w.heap.size w W))
      have HCL := Lib.hid (fun W A3 c3 (h : OwnY W (w.heap.size + 1) (.slice A3 17 c3) 17 (slM q e d c) ∧ Below w.heap.size w W) (hsz : w.heap.size + 1 ≤ W.heap.size) => close_any g (.slice A3 17 c3) 17 _ (w.heap.size + 1) W (by omega) h.1 hsz (HTW.out.below h.2 htl))
      have HQ := Lib.hid (fun W A3 c3 (h3 : OwnY W (w.heap.size + 1) (.slice A3 17 c3) 17 (slM q e d c) ∧ Below w.heap.size w W) W4 A4 c4 (happ : AppB W (w.heap.size + 1) (.slice A3 17 c3) 21 (sealed (slM q e d c)) W4 (.slice A4 21 c4)) =>
        (⟨happ.own, happ.below h3.2 h3.2.size (fun k hk => by have := (h3.1.lt k hk).1; omega)⟩ : OwnY W4 (w.heap.size + 1) (.slice A4 21 c4) 21 (sealed (slM q e d c)) ∧ Below w.heap.size w W4))
      have HZ := Lib.hid (fun W A3 c3 (h3 : OwnY W (w.heap.size + 1) (.slice A3 21 c3) 21 (sealed (slM q e d c)) ∧ Below w.heap.size w W) W4 A4 c4 (happ : AppT W (w.heap.size + 1) 5 (.slice A3 21 c3) (21 + 491) (byteCells (sealed (slM q e d c)) ++ List.replicate 491 (Value.int .u8 0)) W4 (.slice A4 (21 + 491) c4)) =>
        (⟨by have h := happ.own.le (base' := w.heap.size) (by omega); rw [zeros_cells, ← byteCells_append] at h; exact h, happ.below h3.2 h3.2.size (fun k hk => by have := (h3.1.lt k hk).1; omega)⟩ : OwnY W4 w.heap.size (.slice A4 512 c4) 512 (slotB q e d c) ∧ Below w.heap.size w W4))
      have HPU := Lib.hid (fun n (n0 : (0 : Int) ≤ n) (n1 : n < 4294967296) => put_any (.slice A 16 k) 16 _ n 1 (w.heap.size + 1) wr (by omega) n0 n1 (by omega) (by omega) HO.out hxl)
      cases c with
      | true =>
        go_wp2_with (first
          | (go_at_call 21; refine (HPU.out 1 (by omega) (by omega)).mono ?_; rintro x w3 ⟨A3, c3, rfl, happ⟩; have HA3 := Lib.hid (HPB.out _ _ _ happ); have hz3 := Nat.le_trans hxl happ.grow.size; clear happ)
          | (go_at_call 22; refine (HCL.out _ _ _ HA3.out hz3).mono ?_; rintro x w4 ⟨A4, c4, rfl, happ⟩; have HA4 := Lib.hid (HQ.out _ _ _ HA3.out _ _ _ happ); have hz4 := Nat.le_trans hz3 happ.grow.size; clear happ)
          | (at_builtin; refine wpList_appT_zeros _ byteElem 3 .i64 Try.underlying3 rfl rfl (.tmp 37) (.tmp 40) rfl (w.heap.size + 1) (.slice A4 21 c4) 21 (byteCells (sealed (slM q e d true))) rfl HA4.out.1 .i64 491 491 rfl rfl (by omega) (by unfold maxLen; omega) (by omega) hz4 ?_; intro A5 c5 w5 hA; have HA5 := Lib.hid (HZ.out _ _ _ HA4.out _ _ _ hA); clear hA))
        go_ret2
        exact ⟨A5, c5, rfl, HA5.out.1, HA5.out.2⟩
      | false =>
        go_wp2_with (first
          | (go_at_call 21; refine (HPU.out 0 (by omega) (by omega)).mono ?_; rintro x w3 ⟨A3, c3, rfl, happ⟩; have HA3 := Lib.hid (HPB.out _ _ _ happ); have hz3 := Nat.le_trans hxl happ.grow.size; clear happ)
          | (go_at_call 22; refine (HCL.out _ _ _ HA3.out hz3).mono ?_; rintro x w4 ⟨A4, c4, rfl, happ⟩; have HA4 := Lib.hid (HQ.out _ _ _ HA3.out _ _ _ happ); have hz4 := Nat.le_trans hz3 happ.grow.size; clear happ)
          | (at_builtin; refine wpList_appT_zeros _ byteElem 3 .i64 Try.underlying3 rfl rfl (.tmp 37) (.tmp 40) rfl (w.heap.size + 1) (.slice A4 21 c4) 21 (byteCells (sealed (slM q e d false))) rfl HA4.out.1 .i64 491 491 rfl rfl (by omega) (by unfold maxLen; omega) (by omega) hz4 ?_; intro A5 c5 w5 hA; have HA5 := Lib.hid (HZ.out _ _ _ HA4.out _ _ _ hA); clear hA))
        go_ret2
        exact ⟨A5, c5, rfl, HA5.out.1, HA5.out.2⟩
end Go.Proofs.Ytpokicngpapkcaa
