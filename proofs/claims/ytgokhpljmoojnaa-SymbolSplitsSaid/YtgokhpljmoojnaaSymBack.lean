/- Layer 12: the law SymbolBack. -/
import Derived.Test.YtgokhpljmoojnaaSymLaw
namespace Go.Proofs.Ytgokhpljmoojnaa
open Go.RowKit SymP
attribute [local go_sem ↓] Go.wp_at_zero Go.wp_at_succ

/-- Joined symbols are split as they were. -/
theorem split_of_join {n1 b1 : Int} {x1 : Nat} {n2 b2 : Int} {x2 : Nat} {m : Bool} {y l d : Nat} (h : joinR n1 b1 x1 n2 b2 x2 m = some (y, l, d)) (W : World) :
    Calls Try.prog 15 #[agT y l d] W fun e w' => e = .returned (.tuple #[agR n1 b1 x1 n2 b2 x2 m, .bool true]) ∧ Below W.heap.size W w' := by
  unfold joinR at h
  cases m with
  | false =>
    rw [if_pos rfl] at h
    split at h
    · rename_i hc
      obtain ⟨g0, g1, rfl, rfl, rfl, rfl, rfl⟩ := hc
      obtain ⟨z, rfl⟩ := Int.eq_ofNat_of_zero_le g0
      rw [Int.toNat_natCast] at h
      cases h
      exact split_byte _ W (by omega)
    · cases h
  | true =>
    rw [if_neg (by simp)] at h
    split at h
    · rename_i hc
      obtain ⟨c1, c2, c3, c4⟩ := hc
      obtain ⟨p, hp⟩ := Option.isSome_iff_exists.1 c3
      obtain ⟨q, hq⟩ := Option.isSome_iff_exists.1 c4
      have e1 : vN (n1 - 257) b1 x1 = p := by unfold vN; rw [hp]; rfl
      have e2 : vN n2 b2 x2 = q := by unfold vN; rw [hq]; rfl
      have lp := valC_low (n := n1 - 257) (b := b1) (x := x1) (by omega)
      have lq := vN_lt n2 b2 x2
      rw [e1] at h lp
      rw [e2] at h lq
      cases h
      obtain ⟨_, a1, a2, a3⟩ := class_valC hp
      obtain ⟨_, a4, a5, a6⟩ := class_valC hq
      have hs := split_is p q lp lq W
      rw [← a2, ← a3, ← a4, ← a5, ← a6] at hs
      have a7 : ((classC p + 257 : Nat) : Int) = n1 := by omega
      rw [a7] at hs
      exact hs
    · cases h
/-- Split symbols are joined. -/
theorem join_of_byte (y : Nat) (h : y < 256) : joinR y 0 0 0 0 0 false = some (y, 0, 0) := by
  unfold joinR
  rw [if_pos rfl, if_pos ⟨by omega, by omega, rfl, rfl, rfl, rfl, rfl⟩, Int.toNat_natCast]
theorem join_of_match (l d : Nat) (l0 : l < 256) (d0 : d < 32768) :
    joinR (classC l + 257 : Nat) (bitsC (classC l) : Nat) (l % 2 ^ bitsC (classC l)) (classC d : Nat) (bitsC (classC d) : Nat) (d % 2 ^ bitsC (classC d)) true = some (0, l + 3, d + 1) := by
  have v1 := valC_class (v := l) (by omega)
  have v2 := valC_class d0
  have e : ((classC l + 257 : Nat) : Int) - 257 = (classC l : Nat) := by omega
  have k2 : classC l < 16 := by
    by_cases g : classC l < 16
    · exact g
    · have b16 : baseC 16 = 256 := by decide
      have := (baseC_le_iff (v := l) (n := 16) (by omega) (by omega)).2 (by omega)
      omega
  unfold joinR vN
  rw [if_neg (by simp), e, v1, v2, if_pos ⟨by omega, by omega, rfl, rfl⟩]
  rfl

section
variable (y l d n1 b1 : Int) (x1 : Nat) (n2 b2 : Int) (x2 : Nat) (m : Bool)
set_option maxRecDepth 100000 in
set_option maxHeartbeats 2000000 in
theorem back_no_no (w : World)
    (HS : Hid (∀ W, Calls Try.prog 15 #[agT y l d] W fun e w' => e = .returned (.tuple #[agR 0 0 0 0 0 0 false, .bool false]) ∧ Below W.heap.size W w'))
    (HK : Hid (∀ W, Calls Try.prog 18 #[agR n1 b1 x1 n2 b2 x2 m] W fun e w' => e = .returned (.tuple #[agT 0 0 0, .bool false]) ∧ Below W.heap.size W w')) :
    Calls Try.prog 5 #[agT y l d, agR n1 b1 x1 n2 b2 x2 m] w fun e w' => e = .returned (.bool true) ∧ Below w.heap.size w w' := by
  unfold agR agT at *
  go_enter Try.func5, Try.ntmps5
  go_wp2_with (first
    | (go_at_call 15; refine (HS.out _).mono ?_; clear HS; rintro e w4 ⟨rfl, hb⟩; obtain ⟨r2, r3, hbl, hsz⟩ := two_after hb; have R2 := Lib.hid r2; have R3 := Lib.hid r3; have HBL := Lib.hid hbl; have HSZ := Lib.hid hsz; obtain ⟨v0, v1, v2, v3, v4, v5, v6⟩ := row7_both r3; clear hb hbl hsz r2 r3)
    | (go_at_call 18; refine (HK.out _).mono ?_; rintro e w6 ⟨rfl, hb⟩; have hb6 := below_call hb; have r3 := block_after hb6 R3.out; have R23 := Lib.hid r3; have HBX := Lib.hid (HBL.out.trans (hb6.mono (by have := HSZ.out; omega))); have HSX := Lib.hid (show w.heap.size + 2 ≤ w6.heap.size by have := HSZ.out; have := hb6.size; omega); clear hb hb6 r3)
    | (go_at_call 12; refine (lives12_any _).mono ?_; rintro e w9 ⟨rfl, hb9⟩; have HB9 := Lib.hid hb9; clear hb9))
  all_goals go_ret
  all_goals refine ⟨rfl, ?_⟩
  all_goals exact (show Below w.heap.size w _ by repeat (first | exact HBX.out | refine Below.alloc ?_ (by have := HSX.out; simp <;> omega) _)).trans (HB9.out.mono (by have := HSX.out; simp <;> omega))
end

section
variable (y l d n1 b1 : Int) (x1 : Nat) (n2 b2 : Int) (x2 : Nat) (m : Bool)
set_option maxRecDepth 100000 in
set_option maxHeartbeats 2000000 in
theorem back_no_yes (ty tl td : Int) (w : World)
    (HS : Hid (∀ W, Calls Try.prog 15 #[agT y l d] W fun e w' => e = .returned (.tuple #[agR 0 0 0 0 0 0 false, .bool false]) ∧ Below W.heap.size W w'))
    (HK : Hid (∀ W, Calls Try.prog 18 #[agR n1 b1 x1 n2 b2 x2 m] W fun e w' => e = .returned (.tuple #[agT ty tl td, .bool true]) ∧ Below W.heap.size W w'))
    (HT : Hid (∀ W, Calls Try.prog 15 #[agT ty tl td] W fun e w' => e = .returned (.tuple #[agR n1 b1 x1 n2 b2 x2 m, .bool true]) ∧ Below W.heap.size W w')) :
    Calls Try.prog 5 #[agT y l d, agR n1 b1 x1 n2 b2 x2 m] w fun e w' => e = .returned (.bool true) ∧ Below w.heap.size w w' := by
  unfold agR agT at *
  go_enter Try.func5, Try.ntmps5
  go_wp2_with (first
    | (go_at_call 15; refine (HS.out _).mono ?_; clear HS; rintro e w4 ⟨rfl, hb⟩; obtain ⟨r2, r3, hbl, hsz⟩ := two_after hb; have R2 := Lib.hid r2; have R3 := Lib.hid r3; have HBL := Lib.hid hbl; have HSZ := Lib.hid hsz; obtain ⟨v0, v1, v2, v3, v4, v5, v6⟩ := row7_both r3; clear hb hbl hsz r2 r3)
    | (go_at_call 18; refine (HK.out _).mono ?_; rintro e w6 ⟨rfl, hb⟩; have hb6 := below_call hb; have r3 := block_after hb6 R3.out; have R23 := Lib.hid r3; have HBX0 := Lib.hid (HBL.out.trans (hb6.mono (by have := HSZ.out; omega))); have HSX0 := Lib.hid (show w.heap.size + 2 ≤ w6.heap.size by have := HSZ.out; have := hb6.size; omega); clear hb hb6 r3)
    | (go_at_call 15; refine (HT.out _).mono ?_; rintro e w7 ⟨rfl, hb⟩; have hb6 := below_call hb; obtain ⟨u0, u1, u2, u3, u4, u5, u6⟩ := row7_both (block_after hb6 R23.out); have HBX := Lib.hid (HBX0.out.trans (hb6.mono (by have := HSX0.out; omega))); have HSX := Lib.hid (show w.heap.size + 2 ≤ w7.heap.size by have := HSX0.out; have := hb6.size; omega); clear hb hb6)
    | (go_at_call 12; refine (lives12_any _).mono ?_; rintro e w9 ⟨rfl, hb9⟩; have HB9 := Lib.hid hb9; clear hb9))
  all_goals go_ret
  all_goals refine ⟨rfl, ?_⟩
  all_goals exact (show Below w.heap.size w _ by repeat (first | exact HBX.out | refine Below.alloc ?_ (by have := HSX.out; simp <;> omega) _)).trans (HB9.out.mono (by have := HSX.out; simp <;> omega))
end

section
variable (y l d n1 b1 : Int) (x1 : Nat) (n2 b2 : Int) (x2 : Nat) (m : Bool)
set_option maxRecDepth 100000 in
set_option maxHeartbeats 2000000 in
theorem back_yes_no (p1 c1 y1 p2 c2 y2 : Int) (mm : Bool) (hp0 : 0 ≤ p1) (hp1 : p1 < 273) (hp2 : p1 ≠ 256) (hq0 : 0 ≤ p2) (hq1 : p2 < 30) (w : World)
    (HS : Hid (∀ W, Calls Try.prog 15 #[agT y l d] W fun e w' => e = .returned (.tuple #[agR p1 c1 y1 p2 c2 y2 mm, .bool true]) ∧ Below W.heap.size W w'))
    (HJ : Hid (∀ W, Calls Try.prog 18 #[agR p1 c1 y1 p2 c2 y2 mm] W fun e w' => e = .returned (.tuple #[agT y l d, .bool true]) ∧ Below W.heap.size W w'))
    (HK : Hid (∀ W, Calls Try.prog 18 #[agR n1 b1 x1 n2 b2 x2 m] W fun e w' => e = .returned (.tuple #[agT 0 0 0, .bool false]) ∧ Below W.heap.size W w')) :
    Calls Try.prog 5 #[agT y l d, agR n1 b1 x1 n2 b2 x2 m] w fun e w' => e = .returned (.bool true) ∧ Below w.heap.size w w' := by
  have g0 : ¬ (p1 < 0) := by omega
  have g1 : ¬ (273 ≤ p1) := by omega
  have g2 : (p1 == 256) = false := by simpa using hp2
  have g3 : ¬ (p2 < 0) := by omega
  have g4 : ¬ (30 ≤ p2) := by omega
  clear hp0 hp1 hp2 hq0 hq1
  unfold agR agT at *
  go_enter Try.func5, Try.ntmps5
  go_wp2_with (first
    | (go_at_call 15; refine (HS.out _).mono ?_; clear HS; rintro e w4 ⟨rfl, hb⟩; obtain ⟨r2, r3, hbl, hsz⟩ := two_after hb; have R2 := Lib.hid r2; have R3 := Lib.hid r3; have HBL := Lib.hid hbl; have HSZ := Lib.hid hsz; skip; clear hb hbl hsz r2 r3)
    | (go_at_call 18; refine (HJ.out _).mono ?_; clear HJ; rintro e w5 ⟨rfl, hb⟩; have hb6 := below_call hb; have r2 := block_after hb6 R2.out; have r3 := block_after hb6 R3.out; obtain ⟨r5, hs5⟩ := one_after hb; obtain ⟨a0, a1, a2⟩ := row3_both r2; obtain ⟨t0, t1, t2, t3, t4, t5, t6⟩ := row7_both r5; obtain ⟨v0, v1, v2, v3, v4, v5, v6⟩ := row7_both r3; have R13 := Lib.hid r3; have HBM := Lib.hid (HBL.out.trans (hb6.mono (by have := HSZ.out; omega))); have HSM := Lib.hid (show w.heap.size + 2 ≤ w5.heap.size by have := HSZ.out; omega); clear hb hb6 r2 r3 r5 hs5)
    | (go_at_call 18; refine (HK.out _).mono ?_; rintro e w6 ⟨rfl, hb⟩; have hb6 := below_call hb; have r3 := block_after hb6 R13.out; have R23 := Lib.hid r3; have HBX := Lib.hid (HBM.out.trans (hb6.mono (by have := HSM.out; omega))); have HSX := Lib.hid (show w.heap.size + 2 ≤ w6.heap.size by have := HSM.out; have := hb6.size; omega); clear hb hb6 r3)
    | (go_at_call 12; refine (lives12_any _).mono ?_; rintro e w9 ⟨rfl, hb9⟩; have HB9 := Lib.hid hb9; clear hb9))
  all_goals go_ret
  all_goals refine ⟨rfl, ?_⟩
  all_goals exact (show Below w.heap.size w _ by repeat (first | exact HBX.out | refine Below.alloc ?_ (by have := HSX.out; simp <;> omega) _)).trans (HB9.out.mono (by have := HSX.out; simp <;> omega))
end

section
variable (y l d n1 b1 : Int) (x1 : Nat) (n2 b2 : Int) (x2 : Nat) (m : Bool)
set_option maxRecDepth 100000 in
set_option maxHeartbeats 2000000 in
theorem back_yes_yes (p1 c1 y1 p2 c2 y2 : Int) (mm : Bool) (hp0 : 0 ≤ p1) (hp1 : p1 < 273) (hp2 : p1 ≠ 256) (hq0 : 0 ≤ p2) (hq1 : p2 < 30) (ty tl td : Int) (w : World)
    (HS : Hid (∀ W, Calls Try.prog 15 #[agT y l d] W fun e w' => e = .returned (.tuple #[agR p1 c1 y1 p2 c2 y2 mm, .bool true]) ∧ Below W.heap.size W w'))
    (HJ : Hid (∀ W, Calls Try.prog 18 #[agR p1 c1 y1 p2 c2 y2 mm] W fun e w' => e = .returned (.tuple #[agT y l d, .bool true]) ∧ Below W.heap.size W w'))
    (HK : Hid (∀ W, Calls Try.prog 18 #[agR n1 b1 x1 n2 b2 x2 m] W fun e w' => e = .returned (.tuple #[agT ty tl td, .bool true]) ∧ Below W.heap.size W w'))
    (HT : Hid (∀ W, Calls Try.prog 15 #[agT ty tl td] W fun e w' => e = .returned (.tuple #[agR n1 b1 x1 n2 b2 x2 m, .bool true]) ∧ Below W.heap.size W w')) :
    Calls Try.prog 5 #[agT y l d, agR n1 b1 x1 n2 b2 x2 m] w fun e w' => e = .returned (.bool true) ∧ Below w.heap.size w w' := by
  have g0 : ¬ (p1 < 0) := by omega
  have g1 : ¬ (273 ≤ p1) := by omega
  have g2 : (p1 == 256) = false := by simpa using hp2
  have g3 : ¬ (p2 < 0) := by omega
  have g4 : ¬ (30 ≤ p2) := by omega
  clear hp0 hp1 hp2 hq0 hq1
  unfold agR agT at *
  go_enter Try.func5, Try.ntmps5
  go_wp2_with (first
    | (go_at_call 15; refine (HS.out _).mono ?_; clear HS; rintro e w4 ⟨rfl, hb⟩; obtain ⟨r2, r3, hbl, hsz⟩ := two_after hb; have R2 := Lib.hid r2; have R3 := Lib.hid r3; have HBL := Lib.hid hbl; have HSZ := Lib.hid hsz; skip; clear hb hbl hsz r2 r3)
    | (go_at_call 18; refine (HJ.out _).mono ?_; clear HJ; rintro e w5 ⟨rfl, hb⟩; have hb6 := below_call hb; have r2 := block_after hb6 R2.out; have r3 := block_after hb6 R3.out; obtain ⟨r5, hs5⟩ := one_after hb; obtain ⟨a0, a1, a2⟩ := row3_both r2; obtain ⟨t0, t1, t2, t3, t4, t5, t6⟩ := row7_both r5; obtain ⟨v0, v1, v2, v3, v4, v5, v6⟩ := row7_both r3; have R13 := Lib.hid r3; have HBM := Lib.hid (HBL.out.trans (hb6.mono (by have := HSZ.out; omega))); have HSM := Lib.hid (show w.heap.size + 2 ≤ w5.heap.size by have := HSZ.out; omega); clear hb hb6 r2 r3 r5 hs5)
    | (go_at_call 18; refine (HK.out _).mono ?_; rintro e w6 ⟨rfl, hb⟩; have hb6 := below_call hb; have r3 := block_after hb6 R13.out; have R23 := Lib.hid r3; have HBX0 := Lib.hid (HBM.out.trans (hb6.mono (by have := HSM.out; omega))); have HSX0 := Lib.hid (show w.heap.size + 2 ≤ w6.heap.size by have := HSM.out; have := hb6.size; omega); clear hb hb6 r3)
    | (go_at_call 15; refine (HT.out _).mono ?_; rintro e w7 ⟨rfl, hb⟩; have hb6 := below_call hb; obtain ⟨u0, u1, u2, u3, u4, u5, u6⟩ := row7_both (block_after hb6 R23.out); have HBX := Lib.hid (HBX0.out.trans (hb6.mono (by have := HSX0.out; omega))); have HSX := Lib.hid (show w.heap.size + 2 ≤ w7.heap.size by have := HSX0.out; have := hb6.size; omega); clear hb hb6)
    | (go_at_call 12; refine (lives12_any _).mono ?_; rintro e w9 ⟨rfl, hb9⟩; have HB9 := Lib.hid hb9; clear hb9))
  all_goals go_ret
  all_goals refine ⟨rfl, ?_⟩
  all_goals exact (show Below w.heap.size w _ by repeat (first | exact HBX.out | refine Below.alloc ?_ (by have := HSX.out; simp <;> omega) _)).trans (HB9.out.mono (by have := HSX.out; simp <;> omega))
end


theorem row_bounds {l : Nat} (h : l < 256) : classC l < 16 := by
  by_cases g : classC l < 16
  · exact g
  · have b16 : baseC 16 = 256 := by decide
    have := (baseC_le_iff (v := l) (n := 16) (by omega) (by omega)).2 (by omega)
    omega
theorem back_any (y l d n1 b1 x1 n2 b2 x2 : Int) (m : Bool) (w : World) (y0 : 0 ≤ y) (y1 : y < 256) (h10 : 0 ≤ x1) (h11 : x1 < 4294967296) (h20 : 0 ≤ x2) (h21 : x2 < 4294967296) (g0 : -9223372036854775808 ≤ n1) (g1 : n1 ≤ 9223372036854775807) :
    Calls Try.prog 5 #[agT y l d, agR n1 b1 x1 n2 b2 x2 m] w fun e w' => e = .returned (.bool true) ∧ Below w.heap.size w w' := by
  obtain ⟨Y, rfl⟩ := Int.eq_ofNat_of_zero_le y0
  obtain ⟨X1, rfl⟩ := Int.eq_ofNat_of_zero_le h10
  obtain ⟨X2, rfl⟩ := Int.eq_ofNat_of_zero_le h20
  have HK := Lib.hid (fun W => join_all n1 b1 X1 n2 b2 X2 m W (by omega) (by omega) g0 g1)
  cases hr : rightT Y l d with
  | false =>
    have HS := Lib.hid (fun W => split_no Y l d W hr)
    cases hJ : joinR n1 b1 X1 n2 b2 X2 m with
    | none =>
      rw [hJ] at HK
      exact back_no_no Y l d n1 b1 X1 n2 b2 X2 m w HS HK
    | some t =>
      obtain ⟨ty, tl, td⟩ := t
      rw [hJ] at HK
      exact back_no_yes Y l d n1 b1 X1 n2 b2 X2 m ty tl td w HS HK (Lib.hid (fun W => split_of_join hJ W))
  | true =>
    unfold rightT at hr
    by_cases hl : l = 0
    · rw [if_pos hl] at hr
      have hd : d = 0 := by simpa using hr
      subst hl hd
      have HS := Lib.hid (fun W => split_byte Y W (by omega))
      have HJ := Lib.hid (fun W => join_all Y 0 0 0 0 0 false W (by omega) (by omega) (by omega) (by omega))
      rw [join_of_byte Y (by omega)] at HJ
      cases hJ : joinR n1 b1 X1 n2 b2 X2 m with
      | none =>
        rw [hJ] at HK
        exact back_yes_no Y 0 0 n1 b1 X1 n2 b2 X2 m Y 0 0 0 0 0 false (by omega) (by omega) (by omega) (by omega) (by omega) w HS HJ HK
      | some t =>
        obtain ⟨ty, tl, td⟩ := t
        rw [hJ] at HK
        exact back_yes_yes Y 0 0 n1 b1 X1 n2 b2 X2 m Y 0 0 0 0 0 false (by omega) (by omega) (by omega) (by omega) (by omega) ty tl td w HS HJ HK (Lib.hid (fun W => split_of_join hJ W))
    · rw [if_neg hl] at hr
      have hc : 3 ≤ l ∧ l ≤ 258 ∧ 1 ≤ d ∧ d ≤ 32768 ∧ (Y : Int) = 0 := by simpa using hr
      obtain ⟨c1, c2, c3, c4, c5⟩ := hc
      have c5' : Y = 0 := by omega
      subst c5'
      obtain ⟨L, hL⟩ : ∃ L : Nat, l = ((L + 3 : Nat) : Int) := ⟨(l - 3).toNat, by omega⟩
      obtain ⟨D, hD⟩ : ∃ D : Nat, d = ((D + 1 : Nat) : Int) := ⟨(d - 1).toNat, by omega⟩
      subst hL hD
      have HS := Lib.hid (fun W => split_is L D (by omega) (by omega) W)
      have HJ := Lib.hid (fun W => join_all ((classC L + 257 : Nat) : Int) ((bitsC (classC L) : Nat) : Int) (L % 2 ^ bitsC (classC L)) ((classC D : Nat) : Int) ((bitsC (classC D) : Nat) : Int) (D % 2 ^ bitsC (classC D)) true W
        (by have := row_bounds (l := L) (by omega); have := Nat.mod_le L (2 ^ bitsC (classC L)); omega) (by have := Nat.mod_le D (2 ^ bitsC (classC D)); omega) (by omega) (by have := row_bounds (l := L) (by omega); omega))
      rw [join_of_match L D (by omega) (by omega)] at HJ
      have k1 := row_bounds (l := L) (by omega)
      have k2 := (class_is D (by omega)).1
      cases hJ : joinR n1 b1 X1 n2 b2 X2 m with
      | none =>
        rw [hJ] at HK
        exact back_yes_no _ _ _ n1 b1 X1 n2 b2 X2 m _ _ _ _ _ _ true (by omega) (by omega) (by omega) (by omega) (by omega) w HS HJ HK
      | some t =>
        obtain ⟨ty, tl, td⟩ := t
        rw [hJ] at HK
        exact back_yes_yes _ _ _ n1 b1 X1 n2 b2 X2 m _ _ _ _ _ _ true (by omega) (by omega) (by omega) (by omega) (by omega) ty tl td w HS HJ HK (Lib.hid (fun W => split_of_join hJ W))
end Go.Proofs.Ytgokhpljmoojnaa
