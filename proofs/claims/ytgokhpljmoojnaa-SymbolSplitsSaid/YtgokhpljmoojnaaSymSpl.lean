/- Layer 12: the law SymbolSplits. -/
import Derived.Test.YtgokhpljmoojnaaSymBack
namespace Go.Proofs.Ytgokhpljmoojnaa
open Go.RowKit SymP
attribute [local go_sem ↓] Go.wp_at_zero Go.wp_at_succ

theorem row7_two {w : World} {g : Nat} {t : TypeId} {a b c d e f m : Value} (h : w.heap[g]? = some (.cells #[a, b, c, d, e, f, m] t (0, 0))) :
    ((∀ o u, ((w.alloc o).alloc u).cell? ⟨g, 0, none⟩ = some a) ∧ (∀ o u, ((w.alloc o).alloc u).cell? ⟨g, 1, none⟩ = some b) ∧ (∀ o u, ((w.alloc o).alloc u).cell? ⟨g, 2, none⟩ = some c) ∧ (∀ o u, ((w.alloc o).alloc u).cell? ⟨g, 3, none⟩ = some d) ∧ (∀ o u, ((w.alloc o).alloc u).cell? ⟨g, 4, none⟩ = some e) ∧ (∀ o u, ((w.alloc o).alloc u).cell? ⟨g, 5, none⟩ = some f) ∧ (∀ o u, ((w.alloc o).alloc u).cell? ⟨g, 6, none⟩ = some m)) ∧
    (∀ o u, ((w.alloc o).alloc u).frozen? ⟨g, 0, none⟩ = false) ∧ (∀ o u, ((w.alloc o).alloc u).frozen? ⟨g, 1, none⟩ = false) ∧ (∀ o u, ((w.alloc o).alloc u).frozen? ⟨g, 2, none⟩ = false) ∧ (∀ o u, ((w.alloc o).alloc u).frozen? ⟨g, 3, none⟩ = false) ∧ (∀ o u, ((w.alloc o).alloc u).frozen? ⟨g, 4, none⟩ = false) ∧ (∀ o u, ((w.alloc o).alloc u).frozen? ⟨g, 5, none⟩ = false) ∧ (∀ o u, ((w.alloc o).alloc u).frozen? ⟨g, 6, none⟩ = false) := by
  refine ⟨⟨fun o u => ?_, fun o u => ?_, fun o u => ?_, fun o u => ?_, fun o u => ?_, fun o u => ?_, fun o u => ?_⟩, fun o u => frozen_of_row _ g 0 _ _ (row3_alloc (row3_alloc h o) u), fun o u => frozen_of_row _ g 1 _ _ (row3_alloc (row3_alloc h o) u), fun o u => frozen_of_row _ g 2 _ _ (row3_alloc (row3_alloc h o) u), fun o u => frozen_of_row _ g 3 _ _ (row3_alloc (row3_alloc h o) u), fun o u => frozen_of_row _ g 4 _ _ (row3_alloc (row3_alloc h o) u), fun o u => frozen_of_row _ g 5 _ _ (row3_alloc (row3_alloc h o) u), fun o u => frozen_of_row _ g 6 _ _ (row3_alloc (row3_alloc h o) u)⟩ <;> obtain ⟨h0, h1, h2, h3, h4, h5, h6⟩ := row7_cells (row3_alloc (row3_alloc h o) u) <;> assumption
theorem set7 {w : World} {g B : Nat} {t : TypeId} {a b c d e f m : Value} (h : w.heap[g]? = some (.cells #[a, b, c, d, e, f, m] t (0, 0))) (hB : B ≤ g) (u0 u1 u2 u3 u4 u5 u6 : Value) :
    (((((((w.setCell ⟨g, 0, none⟩ u0).setCell ⟨g, 1, none⟩ u1).setCell ⟨g, 2, none⟩ u2).setCell ⟨g, 3, none⟩ u3).setCell ⟨g, 4, none⟩ u4).setCell ⟨g, 5, none⟩ u5).setCell ⟨g, 6, none⟩ u6).heap[g]? = some (.cells #[u0, u1, u2, u3, u4, u5, u6] t (0, 0)) ∧
    (∀ k, k ≠ g → (((((((w.setCell ⟨g, 0, none⟩ u0).setCell ⟨g, 1, none⟩ u1).setCell ⟨g, 2, none⟩ u2).setCell ⟨g, 3, none⟩ u3).setCell ⟨g, 4, none⟩ u4).setCell ⟨g, 5, none⟩ u5).setCell ⟨g, 6, none⟩ u6).heap[k]? = w.heap[k]?) ∧
    Below B w (((((((w.setCell ⟨g, 0, none⟩ u0).setCell ⟨g, 1, none⟩ u1).setCell ⟨g, 2, none⟩ u2).setCell ⟨g, 3, none⟩ u3).setCell ⟨g, 4, none⟩ u4).setCell ⟨g, 5, none⟩ u5).setCell ⟨g, 6, none⟩ u6) := by
  have s0 : ∀ (i : Nat) (W : World) (u : Value) (cs cs' : Array Value), W.heap[g]? = some (.cells cs t (0, 0)) → cs.setIfInBounds i u = cs' → (W.setCell ⟨g, i, none⟩ u).heap[g]? = some (.cells cs' t (0, 0)) ∧ (∀ k, k ≠ g → (W.setCell ⟨g, i, none⟩ u).heap[k]? = W.heap[k]?) ∧ Below B W (W.setCell ⟨g, i, none⟩ u) := by
    intro i W u cs cs' h1 h2
    subst h2
    exact ⟨heap_setCell_same W g i cs t u h1, fun k hk => Below.heap_setCell W ⟨g, i, none⟩ u k hk, (Below.refl B W).setCell (p := ⟨g, i, none⟩) hB u⟩
  obtain ⟨k0, o0, l0⟩ := s0 0 _ u0 #[a, b, c, d, e, f, m] #[u0, b, c, d, e, f, m] h rfl
  obtain ⟨k1, o1, l1⟩ := s0 1 _ u1 #[u0, b, c, d, e, f, m] #[u0, u1, c, d, e, f, m] k0 rfl
  obtain ⟨k2, o2, l2⟩ := s0 2 _ u2 #[u0, u1, c, d, e, f, m] #[u0, u1, u2, d, e, f, m] k1 rfl
  obtain ⟨k3, o3, l3⟩ := s0 3 _ u3 #[u0, u1, u2, d, e, f, m] #[u0, u1, u2, u3, e, f, m] k2 rfl
  obtain ⟨k4, o4, l4⟩ := s0 4 _ u4 #[u0, u1, u2, u3, e, f, m] #[u0, u1, u2, u3, u4, f, m] k3 rfl
  obtain ⟨k5, o5, l5⟩ := s0 5 _ u5 #[u0, u1, u2, u3, u4, f, m] #[u0, u1, u2, u3, u4, u5, m] k4 rfl
  obtain ⟨k6, o6, l6⟩ := s0 6 _ u6 #[u0, u1, u2, u3, u4, u5, m] #[u0, u1, u2, u3, u4, u5, u6] k5 rfl
  exact ⟨k6, fun k hk => (o6 k hk).trans ((o5 k hk).trans ((o4 k hk).trans ((o3 k hk).trans ((o2 k hk).trans ((o1 k hk).trans (o0 k hk)))))), ((((((l0.trans l1).trans l2).trans l3).trans l4).trans l5).trans l6)⟩
theorem right_below (y l d : Int) (w : World) :
    Calls Try.prog 16 #[.agg #[.int .u8 y, .int .i64 l, .int .i64 d]] w fun e w' => e = .returned (.bool (rightT y l d)) ∧ Below w.heap.size w w' :=
  (rright_any y l d w).mono (by rintro e w' ⟨rfl, rfl⟩; exact ⟨rfl, (Below.refl _ w).alloc (Nat.le_refl _) _⟩)

section
variable (y l d n1 b1 : Int) (x1 : Nat) (n2 b2 : Int) (x2 : Nat) (m : Bool)
set_option maxRecDepth 100000 in
set_option maxHeartbeats 4000000 in
theorem spl_no_no (w : World)
    (HS : Hid (∀ W, Calls Try.prog 15 #[agT y l d] W fun e w' => e = .returned (.tuple #[agR 0 0 0 0 0 0 false, .bool false]) ∧ Below W.heap.size W w'))
    (HR : Hid (∀ W, Calls Try.prog 16 #[agT y l d] W fun e w' => e = .returned (.bool false) ∧ Below W.heap.size W w'))
    (HK : Hid (∀ W, Calls Try.prog 18 #[agR n1 b1 x1 n2 b2 x2 m] W fun e w' => e = .returned (.tuple #[agT 0 0 0, .bool false]) ∧ Below W.heap.size W w'))
    (HL : Hid (∀ W, Calls Try.prog 19 #[agC n1 b1 x1, agC n2 b2 x2, .bool m] W fun e w' => e = .returned (.tuple #[agT 0 0 0, .bool false]) ∧ Below W.heap.size W w')) :
    Calls Try.prog 4 #[agT y l d, agR n1 b1 x1 n2 b2 x2 m] w fun e w' => e = .returned (.bool true) ∧ Below w.heap.size w w' := by
  unfold agR agT agC at *
  go_enter Try.func4, Try.ntmps4
  go_wp2_with (first
    | (go_at_call 15; refine (HS.out _).mono ?_; clear HS; rintro e w4 ⟨rfl, hb⟩; obtain ⟨r2, r3, hbl, hsz⟩ := two_after hb; have R2 := Lib.hid r2; have R3 := Lib.hid r3; have HBL := Lib.hid hbl; have HSZ := Lib.hid hsz; obtain ⟨a0, a1, a2⟩ := row3_both r2; clear hb hbl hsz r2 r3)
    | (go_at_call 16; refine (HR.out _).mono ?_; clear HR; rintro e w5 ⟨rfl, hb⟩; have hb6 := below_call hb; have r2 := block_after hb6 R2.out; have r3 := block_after hb6 R3.out; obtain ⟨r5, hs5⟩ := one_after hb; clear a0 a1 a2; obtain ⟨a0, a1, a2⟩ := row3_both r2; obtain ⟨v0, v1, v2, v3, v4, v5, v6⟩ := row7_both r3; have R13 := Lib.hid r3; have R15 := Lib.hid r5; have HBM := Lib.hid (HBL.out.trans (hb6.mono (by have := HSZ.out; omega))); have HSM := Lib.hid (show w.heap.size + 2 ≤ w5.heap.size by have := HSZ.out; omega); clear hb hb6 r2 r3 r5 hs5)
    | (go_at_call 18; refine (HK.out _).mono ?_; rintro e w7 ⟨rfl, hb⟩; have hb6 := below_call hb; have r3 := block_after hb6 R13.out; have r5 := block_after hb6 R15.out; obtain ⟨r7, hs7⟩ := one_after hb; clear v0 v1 v2 v3 v4 v5 v6; obtain ⟨v0, v1, v2, v3, v4, v5, v6⟩ := row7_both r3; have R35 := Lib.hid r5; have R37 := Lib.hid r7; have HBN := Lib.hid (HBM.out.trans (hb6.mono (by have := HSM.out; omega))); have HSN := Lib.hid (show w.heap.size + 2 ≤ w7.heap.size by have := HSM.out; omega); clear hb hb6 r3 r5 r7 hs7)
    | (go_at_call 19; refine (HL.out _).mono ?_; rintro e w8 ⟨rfl, hb⟩; have hb6 := below_call hb; obtain ⟨t0, t1, t2, t3, t4, t5, t6⟩ := row7_both (block_after hb6 R35.out); obtain ⟨k0, k1, k2, k3, k4, k5, k6⟩ := row7_both (block_after hb6 R37.out); obtain ⟨r11, _⟩ := one_after hb; obtain ⟨z0, z1, z2⟩ := row3_both r11; have HBX := Lib.hid (HBN.out.trans (hb6.mono (by have := HSN.out; omega))); have HSX := Lib.hid (show w.heap.size + 2 ≤ w8.heap.size by have := HSN.out; have := hb6.size; omega); clear hb hb6 r11)
    | (go_at_call 12; refine (lives12_any _).mono ?_; rintro e w9 ⟨rfl, hb9⟩; have HB9 := Lib.hid hb9; clear hb9))
  all_goals go_ret
  all_goals refine ⟨rfl, ?_⟩
  all_goals exact (show Below w.heap.size w _ by repeat (first | exact HBX.out | refine Below.alloc ?_ (by have := HSX.out; simp <;> omega) _)).trans (HB9.out.mono (by have := HSX.out; simp <;> omega))
end

section
variable (y l d n1 b1 : Int) (x1 : Nat) (n2 b2 : Int) (x2 : Nat) (m : Bool)
set_option maxRecDepth 100000 in
set_option maxHeartbeats 4000000 in
theorem spl_no_yes (ty tl td : Int) (w : World)
    (HS : Hid (∀ W, Calls Try.prog 15 #[agT y l d] W fun e w' => e = .returned (.tuple #[agR 0 0 0 0 0 0 false, .bool false]) ∧ Below W.heap.size W w'))
    (HR : Hid (∀ W, Calls Try.prog 16 #[agT y l d] W fun e w' => e = .returned (.bool false) ∧ Below W.heap.size W w'))
    (HK : Hid (∀ W, Calls Try.prog 18 #[agR n1 b1 x1 n2 b2 x2 m] W fun e w' => e = .returned (.tuple #[agT ty tl td, .bool true]) ∧ Below W.heap.size W w'))
    (HL : Hid (∀ W, Calls Try.prog 19 #[agC n1 b1 x1, agC n2 b2 x2, .bool m] W fun e w' => e = .returned (.tuple #[agT ty tl td, .bool true]) ∧ Below W.heap.size W w')) :
    Calls Try.prog 4 #[agT y l d, agR n1 b1 x1 n2 b2 x2 m] w fun e w' => e = .returned (.bool true) ∧ Below w.heap.size w w' := by
  unfold agR agT agC at *
  go_enter Try.func4, Try.ntmps4
  go_wp2_with (first
    | (go_at_call 15; refine (HS.out _).mono ?_; clear HS; rintro e w4 ⟨rfl, hb⟩; obtain ⟨r2, r3, hbl, hsz⟩ := two_after hb; have R2 := Lib.hid r2; have R3 := Lib.hid r3; have HBL := Lib.hid hbl; have HSZ := Lib.hid hsz; obtain ⟨a0, a1, a2⟩ := row3_both r2; clear hb hbl hsz r2 r3)
    | (go_at_call 16; refine (HR.out _).mono ?_; clear HR; rintro e w5 ⟨rfl, hb⟩; have hb6 := below_call hb; have r2 := block_after hb6 R2.out; have r3 := block_after hb6 R3.out; obtain ⟨r5, hs5⟩ := one_after hb; clear a0 a1 a2; obtain ⟨a0, a1, a2⟩ := row3_both r2; obtain ⟨v0, v1, v2, v3, v4, v5, v6⟩ := row7_both r3; have R13 := Lib.hid r3; have R15 := Lib.hid r5; have HBM := Lib.hid (HBL.out.trans (hb6.mono (by have := HSZ.out; omega))); have HSM := Lib.hid (show w.heap.size + 2 ≤ w5.heap.size by have := HSZ.out; omega); clear hb hb6 r2 r3 r5 hs5)
    | (go_at_call 18; refine (HK.out _).mono ?_; rintro e w7 ⟨rfl, hb⟩; have hb6 := below_call hb; have r3 := block_after hb6 R13.out; have r5 := block_after hb6 R15.out; obtain ⟨r7, hs7⟩ := one_after hb; clear v0 v1 v2 v3 v4 v5 v6; obtain ⟨v0, v1, v2, v3, v4, v5, v6⟩ := row7_both r3; have R35 := Lib.hid r5; have R37 := Lib.hid r7; have HBN := Lib.hid (HBM.out.trans (hb6.mono (by have := HSM.out; omega))); have HSN := Lib.hid (show w.heap.size + 2 ≤ w7.heap.size by have := HSM.out; omega); clear hb hb6 r3 r5 r7 hs7)
    | (go_at_call 19; refine (HL.out _).mono ?_; rintro e w8 ⟨rfl, hb⟩; have hb6 := below_call hb; obtain ⟨t0, t1, t2, t3, t4, t5, t6⟩ := row7_both (block_after hb6 R35.out); obtain ⟨k0, k1, k2, k3, k4, k5, k6⟩ := row7_both (block_after hb6 R37.out); obtain ⟨r11, _⟩ := one_after hb; obtain ⟨z0, z1, z2⟩ := row3_both r11; have HBX := Lib.hid (HBN.out.trans (hb6.mono (by have := HSN.out; omega))); have HSX := Lib.hid (show w.heap.size + 2 ≤ w8.heap.size by have := HSN.out; have := hb6.size; omega); clear hb hb6 r11)
    | (go_at_call 12; refine (lives12_any _).mono ?_; rintro e w9 ⟨rfl, hb9⟩; have HB9 := Lib.hid hb9; clear hb9))
  all_goals go_ret
  all_goals refine ⟨rfl, ?_⟩
  all_goals exact (show Below w.heap.size w _ by repeat (first | exact HBX.out | refine Below.alloc ?_ (by have := HSX.out; simp <;> omega) _)).trans (HB9.out.mono (by have := HSX.out; simp <;> omega))
end

section
variable (y l d n1 b1 : Int) (x1 : Nat) (n2 b2 : Int) (x2 : Nat) (m : Bool)
set_option maxRecDepth 100000 in
set_option maxHeartbeats 4000000 in
theorem spl_yes_no (p1 c1 y1 p2 c2 y2 : Int) (mm : Bool) (w : World)
    (HS : Hid (∀ W, Calls Try.prog 15 #[agT y l d] W fun e w' => e = .returned (.tuple #[agR p1 c1 y1 p2 c2 y2 mm, .bool true]) ∧ Below W.heap.size W w'))
    (HR : Hid (∀ W, Calls Try.prog 16 #[agT y l d] W fun e w' => e = .returned (.bool true) ∧ Below W.heap.size W w'))
    (HJ : Hid (∀ W, Calls Try.prog 17 #[agT y l d] W fun e w' => e = .returned (.tuple #[agC p1 c1 y1, agC p2 c2 y2, .bool mm]) ∧ Below W.heap.size W w'))
    (HK : Hid (∀ W, Calls Try.prog 18 #[agR n1 b1 x1 n2 b2 x2 m] W fun e w' => e = .returned (.tuple #[agT 0 0 0, .bool false]) ∧ Below W.heap.size W w'))
    (HL : Hid (∀ W, Calls Try.prog 19 #[agC n1 b1 x1, agC n2 b2 x2, .bool m] W fun e w' => e = .returned (.tuple #[agT 0 0 0, .bool false]) ∧ Below W.heap.size W w')) :
    Calls Try.prog 4 #[agT y l d, agR n1 b1 x1 n2 b2 x2 m] w fun e w' => e = .returned (.bool true) ∧ Below w.heap.size w w' := by
  unfold agR agT agC at *
  go_enter Try.func4, Try.ntmps4
  go_wp2_with (first
    | (go_at_call 15; refine (HS.out _).mono ?_; clear HS; rintro e w4 ⟨rfl, hb⟩; obtain ⟨r2, r3, hbl, hsz⟩ := two_after hb; have R2 := Lib.hid r2; have R3 := Lib.hid r3; have HBL := Lib.hid hbl; have HSZ := Lib.hid hsz; obtain ⟨a0, a1, a2⟩ := row3_both r2; clear hb hbl hsz r2 r3)
    | (go_at_call 16; refine (HR.out _).mono ?_; clear HR; rintro e w5 ⟨rfl, hb⟩; have hb6 := below_call hb; have r2 := block_after hb6 R2.out; have r3 := block_after hb6 R3.out; obtain ⟨r5, hs5⟩ := one_after hb; clear a0 a1 a2; obtain ⟨a0, a1, a2⟩ := row3_both r2; obtain ⟨v0, v1, v2, v3, v4, v5, v6⟩ := row7_both r3; have R13 := Lib.hid r3; have R15 := Lib.hid r5; have HBM := Lib.hid (HBL.out.trans (hb6.mono (by have := HSZ.out; omega))); have HSM := Lib.hid (show w.heap.size + 2 ≤ w5.heap.size by have := HSZ.out; omega); clear hb hb6 r2 r3 r5 hs5)
    | (go_at_call 17; refine (HJ.out _).mono ?_; clear HJ; rintro e w6 ⟨rfl, hb⟩; have hb6 := below_call hb; have r3 := block_after hb6 R13.out; have r5 := block_after hb6 R15.out; obtain ⟨r7, hs7⟩ := one_after hb; clear v0 v1 v2 v3 v4 v5 v6; obtain ⟨⟨v0, v1, v2, v3, v4, v5, v6⟩, _, _, _, _, _, _, _⟩ := row7_two r3; obtain ⟨⟨k0, k1, k2, k3, k4, k5, k6⟩, f0, f1, f2, f3, f4, f5, f6⟩ := row7_two r7; have hn1 : ¬ (w5.heap.size = w.heap.size + 1) := (by have := HSM.out; omega); have hn2 : ¬ (w.heap.size + 1 = w5.heap.size) := (by have := HSM.out; omega); have R23 := Lib.hid r3; have R25 := Lib.hid r5; have R27 := Lib.hid r7; have HBN := Lib.hid (HBM.out.trans (hb6.mono (by have := HSM.out; omega))); have HSN := Lib.hid (show w5.heap.size + 1 ≤ w6.heap.size from hs7); have HLT := Lib.hid (show w4.heap.size < w5.heap.size from (Array.getElem?_eq_some_iff.1 R15.out).1); have HL4 := HSZ; have HL5 := HSM; clear hb hb6 r3 r5 r7 hs7)
    | (go_at_call 18; refine (HK.out _).mono ?_; rintro e w7 ⟨rfl, hb⟩; obtain ⟨hU1, hU2, hU3⟩ := set7 (B := w.heap.size) (row3_alloc (row3_alloc R27.out (.cells #[.int .i64 p1, .int .i64 c1, .int .u32 y1] 32)) (.cells #[.int .i64 p2, .int .i64 c2, .int .u32 y2] 32)) (by have := HL5.out; omega) (.int .i64 p1) (.int .i64 c1) (.int .u32 y1) (.int .i64 p2) (.int .i64 c2) (.int .u32 y2) (.bool mm); have r7 := block_after hb hU1; have r3 := block_after hb ((hU2 _ (by have := HL5.out; omega)).trans (row3_alloc (row3_alloc R23.out _) _)); have r5 := block_after hb ((hU2 _ (by have := HLT.out; omega)).trans (row3_alloc (row3_alloc R25.out _) _)); have hsz := hU3.size; have HBN2 := Lib.hid (((HBN.out.alloc (by have := HSN.out; have := HL5.out; omega) _).alloc (by have := HSN.out; have := HL5.out; simp; omega) _).trans (hU3.trans (hb.mono (by have := HSN.out; have := HL5.out; rw [World.size_alloc, World.size_alloc] at hsz; omega)))); clear v0 v1 v2 v3 v4 v5 v6 k0 k1 k2 k3 k4 k5 k6 f0 f1 f2 f3 f4 f5 f6; obtain ⟨v0, v1, v2, v3, v4, v5, v6⟩ := row7_both r3; have R35 := Lib.hid r5; have R37 := Lib.hid r7; have HSN2 := Lib.hid (show w.heap.size + 2 ≤ w7.heap.size by have := hb.size; have := HSN.out; have := HL5.out; rw [World.size_alloc, World.size_alloc] at hsz; omega); clear hb hU1 hU2 hU3 r7 r3 r5 hsz)
    | (go_at_call 19; refine (HL.out _).mono ?_; rintro e w8 ⟨rfl, hb⟩; have hb6 := below_call hb; obtain ⟨t0, t1, t2, t3, t4, t5, t6⟩ := row7_both (block_after hb6 R35.out); obtain ⟨k0, k1, k2, k3, k4, k5, k6⟩ := row7_both (block_after hb6 R37.out); obtain ⟨r11, _⟩ := one_after hb; obtain ⟨z0, z1, z2⟩ := row3_both r11; have HBX := Lib.hid (HBN2.out.trans (hb6.mono (by have := HSN2.out; omega))); have HSX := Lib.hid (show w.heap.size + 2 ≤ w8.heap.size by have := HSN2.out; have := hb6.size; omega); clear hb hb6 r11)
    | (go_at_call 12; refine (lives12_any _).mono ?_; rintro e w9 ⟨rfl, hb9⟩; have HB9 := Lib.hid hb9; clear hb9))
  all_goals go_ret
  all_goals refine ⟨rfl, ?_⟩
  all_goals exact (show Below w.heap.size w _ by repeat (first | exact HBX.out | refine Below.alloc ?_ (by have := HSX.out; simp <;> omega) _)).trans (HB9.out.mono (by have := HSX.out; simp <;> omega))
end

section
variable (y l d n1 b1 : Int) (x1 : Nat) (n2 b2 : Int) (x2 : Nat) (m : Bool)
set_option maxRecDepth 100000 in
set_option maxHeartbeats 4000000 in
theorem spl_yes_yes (p1 c1 y1 p2 c2 y2 : Int) (mm : Bool) (ty tl td : Int) (w : World)
    (HS : Hid (∀ W, Calls Try.prog 15 #[agT y l d] W fun e w' => e = .returned (.tuple #[agR p1 c1 y1 p2 c2 y2 mm, .bool true]) ∧ Below W.heap.size W w'))
    (HR : Hid (∀ W, Calls Try.prog 16 #[agT y l d] W fun e w' => e = .returned (.bool true) ∧ Below W.heap.size W w'))
    (HJ : Hid (∀ W, Calls Try.prog 17 #[agT y l d] W fun e w' => e = .returned (.tuple #[agC p1 c1 y1, agC p2 c2 y2, .bool mm]) ∧ Below W.heap.size W w'))
    (HK : Hid (∀ W, Calls Try.prog 18 #[agR n1 b1 x1 n2 b2 x2 m] W fun e w' => e = .returned (.tuple #[agT ty tl td, .bool true]) ∧ Below W.heap.size W w'))
    (HL : Hid (∀ W, Calls Try.prog 19 #[agC n1 b1 x1, agC n2 b2 x2, .bool m] W fun e w' => e = .returned (.tuple #[agT ty tl td, .bool true]) ∧ Below W.heap.size W w')) :
    Calls Try.prog 4 #[agT y l d, agR n1 b1 x1 n2 b2 x2 m] w fun e w' => e = .returned (.bool true) ∧ Below w.heap.size w w' := by
  unfold agR agT agC at *
  go_enter Try.func4, Try.ntmps4
  go_wp2_with (first
    | (go_at_call 15; refine (HS.out _).mono ?_; clear HS; rintro e w4 ⟨rfl, hb⟩; obtain ⟨r2, r3, hbl, hsz⟩ := two_after hb; have R2 := Lib.hid r2; have R3 := Lib.hid r3; have HBL := Lib.hid hbl; have HSZ := Lib.hid hsz; obtain ⟨a0, a1, a2⟩ := row3_both r2; clear hb hbl hsz r2 r3)
    | (go_at_call 16; refine (HR.out _).mono ?_; clear HR; rintro e w5 ⟨rfl, hb⟩; have hb6 := below_call hb; have r2 := block_after hb6 R2.out; have r3 := block_after hb6 R3.out; obtain ⟨r5, hs5⟩ := one_after hb; clear a0 a1 a2; obtain ⟨a0, a1, a2⟩ := row3_both r2; obtain ⟨v0, v1, v2, v3, v4, v5, v6⟩ := row7_both r3; have R13 := Lib.hid r3; have R15 := Lib.hid r5; have HBM := Lib.hid (HBL.out.trans (hb6.mono (by have := HSZ.out; omega))); have HSM := Lib.hid (show w.heap.size + 2 ≤ w5.heap.size by have := HSZ.out; omega); clear hb hb6 r2 r3 r5 hs5)
    | (go_at_call 17; refine (HJ.out _).mono ?_; clear HJ; rintro e w6 ⟨rfl, hb⟩; have hb6 := below_call hb; have r3 := block_after hb6 R13.out; have r5 := block_after hb6 R15.out; obtain ⟨r7, hs7⟩ := one_after hb; clear v0 v1 v2 v3 v4 v5 v6; obtain ⟨⟨v0, v1, v2, v3, v4, v5, v6⟩, _, _, _, _, _, _, _⟩ := row7_two r3; obtain ⟨⟨k0, k1, k2, k3, k4, k5, k6⟩, f0, f1, f2, f3, f4, f5, f6⟩ := row7_two r7; have hn1 : ¬ (w5.heap.size = w.heap.size + 1) := (by have := HSM.out; omega); have hn2 : ¬ (w.heap.size + 1 = w5.heap.size) := (by have := HSM.out; omega); have R23 := Lib.hid r3; have R25 := Lib.hid r5; have R27 := Lib.hid r7; have HBN := Lib.hid (HBM.out.trans (hb6.mono (by have := HSM.out; omega))); have HSN := Lib.hid (show w5.heap.size + 1 ≤ w6.heap.size from hs7); have HLT := Lib.hid (show w4.heap.size < w5.heap.size from (Array.getElem?_eq_some_iff.1 R15.out).1); have HL4 := HSZ; have HL5 := HSM; clear hb hb6 r3 r5 r7 hs7)
    | (go_at_call 18; refine (HK.out _).mono ?_; rintro e w7 ⟨rfl, hb⟩; obtain ⟨hU1, hU2, hU3⟩ := set7 (B := w.heap.size) (row3_alloc (row3_alloc R27.out (.cells #[.int .i64 p1, .int .i64 c1, .int .u32 y1] 32)) (.cells #[.int .i64 p2, .int .i64 c2, .int .u32 y2] 32)) (by have := HL5.out; omega) (.int .i64 p1) (.int .i64 c1) (.int .u32 y1) (.int .i64 p2) (.int .i64 c2) (.int .u32 y2) (.bool mm); have r7 := block_after hb hU1; have r3 := block_after hb ((hU2 _ (by have := HL5.out; omega)).trans (row3_alloc (row3_alloc R23.out _) _)); have r5 := block_after hb ((hU2 _ (by have := HLT.out; omega)).trans (row3_alloc (row3_alloc R25.out _) _)); have hsz := hU3.size; have HBN2 := Lib.hid (((HBN.out.alloc (by have := HSN.out; have := HL5.out; omega) _).alloc (by have := HSN.out; have := HL5.out; simp; omega) _).trans (hU3.trans (hb.mono (by have := HSN.out; have := HL5.out; rw [World.size_alloc, World.size_alloc] at hsz; omega)))); clear v0 v1 v2 v3 v4 v5 v6 k0 k1 k2 k3 k4 k5 k6 f0 f1 f2 f3 f4 f5 f6; obtain ⟨v0, v1, v2, v3, v4, v5, v6⟩ := row7_both r3; have R35 := Lib.hid r5; have R37 := Lib.hid r7; have HSN2 := Lib.hid (show w.heap.size + 2 ≤ w7.heap.size by have := hb.size; have := HSN.out; have := HL5.out; rw [World.size_alloc, World.size_alloc] at hsz; omega); clear hb hU1 hU2 hU3 r7 r3 r5 hsz)
    | (go_at_call 19; refine (HL.out _).mono ?_; rintro e w8 ⟨rfl, hb⟩; have hb6 := below_call hb; obtain ⟨t0, t1, t2, t3, t4, t5, t6⟩ := row7_both (block_after hb6 R35.out); obtain ⟨k0, k1, k2, k3, k4, k5, k6⟩ := row7_both (block_after hb6 R37.out); obtain ⟨r11, _⟩ := one_after hb; obtain ⟨z0, z1, z2⟩ := row3_both r11; have HBX := Lib.hid (HBN2.out.trans (hb6.mono (by have := HSN2.out; omega))); have HSX := Lib.hid (show w.heap.size + 2 ≤ w8.heap.size by have := HSN2.out; have := hb6.size; omega); clear hb hb6 r11)
    | (go_at_call 12; refine (lives12_any _).mono ?_; rintro e w9 ⟨rfl, hb9⟩; have HB9 := Lib.hid hb9; clear hb9))
  all_goals go_ret
  all_goals refine ⟨rfl, ?_⟩
  all_goals exact (show Below w.heap.size w _ by repeat (first | exact HBX.out | refine Below.alloc ?_ (by have := HSX.out; simp <;> omega) _)).trans (HB9.out.mono (by have := HSX.out; simp <;> omega))
end


theorem splits_any (y l d n1 b1 x1 n2 b2 x2 : Int) (m : Bool) (w : World) (y0 : 0 ≤ y) (y1 : y < 256) (h10 : 0 ≤ x1) (h11 : x1 < 4294967296) (h20 : 0 ≤ x2) (h21 : x2 < 4294967296) (g0 : -9223372036854775808 ≤ n1) (g1 : n1 ≤ 9223372036854775807) :
    Calls Try.prog 4 #[agT y l d, agR n1 b1 x1 n2 b2 x2 m] w fun e w' => e = .returned (.bool true) ∧ Below w.heap.size w w' := by
  obtain ⟨Y, rfl⟩ := Int.eq_ofNat_of_zero_le y0
  obtain ⟨X1, rfl⟩ := Int.eq_ofNat_of_zero_le h10
  obtain ⟨X2, rfl⟩ := Int.eq_ofNat_of_zero_le h20
  have HK := Lib.hid (fun W => join_all n1 b1 X1 n2 b2 X2 m W (by omega) (by omega) g0 g1)
  have HL := Lib.hid (fun W => rjoin_all n1 b1 X1 n2 b2 X2 m W (by omega) (by omega))
  have HR := Lib.hid (fun W => right_below Y l d W)
  cases hr : rightT Y l d with
  | false =>
    have HS := Lib.hid (fun W => split_no Y l d W hr)
    rw [hr] at HR
    cases hJ : joinR n1 b1 X1 n2 b2 X2 m with
    | none =>
      rw [hJ] at HK HL
      exact spl_no_no Y l d n1 b1 X1 n2 b2 X2 m w HS HR HK HL
    | some t =>
      obtain ⟨ty, tl, td⟩ := t
      rw [hJ] at HK HL
      exact spl_no_yes Y l d n1 b1 X1 n2 b2 X2 m ty tl td w HS HR HK HL
  | true =>
    rw [hr] at HR
    unfold rightT at hr
    by_cases hl : l = 0
    · rw [if_pos hl] at hr
      have hd : d = 0 := by simpa using hr
      subst hl hd
      have HS := Lib.hid (fun W => split_byte Y W (by omega))
      have HJ := Lib.hid (fun W => rsplit_byte Y W (by omega))
      cases hJ : joinR n1 b1 X1 n2 b2 X2 m with
      | none =>
        rw [hJ] at HK HL
        exact spl_yes_no Y 0 0 n1 b1 X1 n2 b2 X2 m Y 0 0 0 0 0 false w HS HR HJ HK HL
      | some t =>
        obtain ⟨ty, tl, td⟩ := t
        rw [hJ] at HK HL
        exact spl_yes_yes Y 0 0 n1 b1 X1 n2 b2 X2 m Y 0 0 0 0 0 false ty tl td w HS HR HJ HK HL
    · rw [if_neg hl] at hr
      have hc : 3 ≤ l ∧ l ≤ 258 ∧ 1 ≤ d ∧ d ≤ 32768 ∧ (Y : Int) = 0 := by simpa using hr
      obtain ⟨c1, c2, c3, c4, c5⟩ := hc
      have c5' : Y = 0 := by omega
      subst c5'
      obtain ⟨L, hL⟩ : ∃ L : Nat, l = ((L + 3 : Nat) : Int) := ⟨(l - 3).toNat, by omega⟩
      obtain ⟨D, hD⟩ : ∃ D : Nat, d = ((D + 1 : Nat) : Int) := ⟨(d - 1).toNat, by omega⟩
      subst hL hD
      have HS := Lib.hid (fun W => split_is L D (by omega) (by omega) W)
      have HJ := Lib.hid (fun W => rsplit_match L D W (by omega) (by omega))
      cases hJ : joinR n1 b1 X1 n2 b2 X2 m with
      | none =>
        rw [hJ] at HK HL
        exact spl_yes_no _ _ _ n1 b1 X1 n2 b2 X2 m _ _ _ _ _ _ true w HS HR HJ HK HL
      | some t =>
        obtain ⟨ty, tl, td⟩ := t
        rw [hJ] at HK HL
        exact spl_yes_yes _ _ _ n1 b1 X1 n2 b2 X2 m _ _ _ _ _ _ true ty tl td w HS HR HJ HK HL
end Go.Proofs.Ytgokhpljmoojnaa
