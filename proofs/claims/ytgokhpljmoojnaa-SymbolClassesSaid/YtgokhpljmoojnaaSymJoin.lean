/- Layer 12: the token of symbols. -/
import Derived.Test.YtgokhpljmoojnaaSymTok
namespace Go.Proofs.Ytgokhpljmoojnaa
open Go.RowKit SymP
attribute [local go_sem ↓] Go.wp_at_zero Go.wp_at_succ

/-- The cells of a block that was there ahead of a call. -/
theorem block_after {w w' : World} {g : Nat} {cs : Array Value} {t : TypeId} (h : Below w.heap.size w w') (hg : w.heap[g]? = some (.cells cs t (0, 0))) : w'.heap[g]? = some (.cells cs t (0, 0)) :=
  (h.block _ (Array.getElem?_eq_some_iff.1 hg).1).trans hg
theorem row7_cells {w : World} {g : Nat} {t : TypeId} {a b c d e f m : Value} (h : w.heap[g]? = some (.cells #[a, b, c, d, e, f, m] t (0, 0))) :
    w.cell? ⟨g, 0, none⟩ = some a ∧ w.cell? ⟨g, 1, none⟩ = some b ∧ w.cell? ⟨g, 2, none⟩ = some c ∧ w.cell? ⟨g, 3, none⟩ = some d ∧ w.cell? ⟨g, 4, none⟩ = some e ∧ w.cell? ⟨g, 5, none⟩ = some f ∧ w.cell? ⟨g, 6, none⟩ = some m :=
  ⟨cell_of_row w g 0 _ _ _ h, cell_of_row w g 1 _ _ _ h, cell_of_row w g 2 _ _ _ h, cell_of_row w g 3 _ _ _ h, cell_of_row w g 4 _ _ _ h, cell_of_row w g 5 _ _ _ h, cell_of_row w g 6 _ _ _ h⟩
theorem row3_free {w : World} {g : Nat} {t : TypeId} {cs : Array Value} (h : w.heap[g]? = some (.cells cs t (0, 0))) :
    w.frozen? ⟨g, 0, none⟩ = false ∧ w.frozen? ⟨g, 1, none⟩ = false ∧ w.frozen? ⟨g, 2, none⟩ = false :=
  ⟨frozen_of_row w g 0 _ _ h, frozen_of_row w g 1 _ _ h, frozen_of_row w g 2 _ _ h⟩

theorem three_after {w w' : World} {A B C : Obj} (h : Below (((w.alloc A).alloc B).alloc C).heap.size (((w.alloc A).alloc B).alloc C) w') :
    w'.heap[w.heap.size]? = some A ∧ w'.heap[w.heap.size + 1]? = some B ∧ w'.heap[w.heap.size + 1 + 1]? = some C ∧ Below w.heap.size w w' ∧ w.heap.size + 3 ≤ w'.heap.size := by
  have e1 : (w.alloc A).heap.size = w.heap.size + 1 := by simp
  have e2 : ((w.alloc A).alloc B).heap.size = w.heap.size + 1 + 1 := by simp
  have e3 : (((w.alloc A).alloc B).alloc C).heap.size = w.heap.size + 1 + 1 + 1 := by simp
  have hs := h.size
  rw [e3] at h hs
  refine ⟨?_, ?_, ?_, ?_, hs⟩
  · rw [h.block _ (by omega), Below.heap_alloc _ _ _ (by omega), Below.heap_alloc _ _ _ (by omega)]
    exact heap_alloc_last w A
  · rw [h.block _ (by omega), Below.heap_alloc _ _ _ (by omega), ← e1]
    exact heap_alloc_last (w.alloc A) B
  · rw [h.block _ (by omega), ← e2]
    exact heap_alloc_last ((w.alloc A).alloc B) C
  · exact ((((Below.refl _ w).alloc (Nat.le_refl _) A).alloc (by omega) B).alloc (by omega) C).trans (h.mono (by omega))

/-- Value, as one. -/
def vN (n b : Int) (x : Nat) : Nat := (valC n b x).getD 0
theorem value_all (n b : Int) (x : Nat) (w : World) (hx : x < 4294967296) :
    Calls Try.prog 9 #[agC n b x] w fun e w' => e = .returned (.tuple #[.int .i64 (vN n b x : Nat), .bool (valC n b x).isSome]) ∧ Below w.heap.size w w' := by
  cases h : valC n b x with
  | none =>
    unfold vN
    rw [h]
    exact value_none n b x w hx h
  | some v =>
    unfold vN
    rw [h]
    unfold valC at h
    split at h
    · rename_i hc
      obtain ⟨h0, h1, h2, h3⟩ := hc
      obtain ⟨m, rfl⟩ := Int.eq_ofNat_of_zero_le h0
      rw [Int.toNat_natCast] at h2 h3 h
      cases h
      rw [h2]
      exact value_some m x w (by omega) h3
    · cases h
theorem vN_lt (n b : Int) (x : Nat) : vN n b x < 32768 := by
  unfold vN valC
  split
  · rename_i hc
    have := baseC_top n.toNat (by omega)
    simp only [Option.getD_some]
    omega
  · simp

theorem token_byte (n1 b1 : Int) (x1 : Nat) (n2 b2 : Int) (x2 : Nat) (w : World) :
    Calls Try.prog 22 #[agR n1 b1 x1 n2 b2 x2 false] w fun e w' => e = .returned (.agg #[.int .u8 (IntKind.u8.wrap n1), .int .i64 0, .int .i64 0]) ∧ Below w.heap.size w w' := by
  unfold agR
  obtain ⟨z, hz⟩ : ∃ z, IntKind.u8.wrap n1 = z := ⟨_, rfl⟩
  rw [hz]
  go_enter Try.func22, Try.ntmps22
  go_wp2
  refine bodyPost_ret (v := .agg #[.int .u8 z, .int .i64 0, .int .i64 0]) ?_ rfl ⟨rfl, ?_⟩
  · rw [results_cell1 rfl]
    go_simp
    try rfl
  · repeat (first | exact Below.refl _ _ | refine Below.drew ?_ | refine Below.alloc ?_ (by simp <;> omega) _)

set_option maxHeartbeats 1000000 in
theorem token_match (n1 b1 : Int) (x1 : Nat) (n2 b2 : Int) (x2 : Nat) (w : World) (h1 : x1 < 4294967296) (h2 : x2 < 4294967296) :
    Calls Try.prog 22 #[agR n1 b1 x1 n2 b2 x2 true] w fun e w' => e = .returned (.agg #[.int .u8 0, .int .i64 (vN (wrap64 (n1 - 257)) b1 x1 + 3 : Nat), .int .i64 (vN n2 b2 x2 + 1 : Nat)]) ∧ Below w.heap.size w w' := by
  have HV1 := Lib.hid (fun W => value_all (wrap64 (n1 - 257)) b1 x1 W h1)
  have HV2 := Lib.hid (fun W => value_all n2 b2 x2 W h2)
  have l1 := vN_lt (wrap64 (n1 - 257)) b1 x1
  have l2 := vN_lt n2 b2 x2
  unfold agR
  generalize vN (wrap64 (n1 - 257)) b1 x1 = p at *
  generalize vN n2 b2 x2 = q at *
  generalize (valC (wrap64 (n1 - 257)) b1 x1).isSome = o1 at *
  generalize (valC n2 b2 x2).isSome = o2 at *
  unfold agC at HV1 HV2
  have hp : IntKind.i64.wrap ((p : Int) + 3) = ((p + 3 : Nat) : Int) := by rw [IntWalk.i64_in _ (by omega)]; omega
  have hq : IntKind.i64.wrap ((q : Int) + 1) = ((q + 1 : Nat) : Int) := by rw [IntWalk.i64_in _ (by omega)]; omega
  have HA := Lib.hid (heap_alloc_last w (.cells #[.int .i64 n1, .int .i64 b1, .int .u32 x1, .int .i64 n2, .int .i64 b2, .int .u32 x2, .bool true] 40))
  have hs : ∀ o, (w.alloc o).heap.size = w.heap.size + 1 := fun o => by simp
  go_enter Try.func22, Try.ntmps22
  go_wp2_with (first
    | (go_at_call 9; refine (HV1.out _).mono ?_; clear HV1; rintro e w4 ⟨rfl, hb4⟩; obtain ⟨r0, r1, r2, hbl, hsz⟩ := three_after hb4; have R1 := Lib.hid r1; have HSZ := Lib.hid hsz; obtain ⟨_, _, _, q3, q4, q5, _⟩ := row7_cells r0; have HBL := Lib.hid hbl; clear r0 r1 r2 hb4 hbl hsz)
    | (go_at_call 9; refine (HV2.out _).mono ?_; clear HV2; rintro e w5 ⟨rfl, hb5⟩; obtain ⟨k0, k1, k2⟩ := row3_cells (block_after hb5 R1.out); obtain ⟨f0, f1, f2⟩ := row3_free (block_after hb5 R1.out); have HBM := Lib.hid (HBL.out.trans (hb5.mono (by have := HSZ.out; omega))); clear hb5))
  refine bodyPost_ret (v := .agg #[.int .u8 0, .int .i64 (p + 3 : Nat), .int .i64 (q + 1 : Nat)]) ?_ rfl ⟨rfl, ?_⟩
  · rw [results_cell1 rfl]
    go_simp
    try rfl
  · exact ((HBM.out.setCell (p := ⟨w.heap.size + 1, 0, none⟩) (Nat.le_succ _) _).setCell (p := ⟨w.heap.size + 1, 1, none⟩) (Nat.le_succ _) _).setCell (p := ⟨w.heap.size + 1, 2, none⟩) (Nat.le_succ _) _

theorem two_after {w w' : World} {A B : Obj} (h : Below ((w.alloc A).alloc B).heap.size ((w.alloc A).alloc B) w') :
    w'.heap[w.heap.size]? = some A ∧ w'.heap[w.heap.size + 1]? = some B ∧ Below w.heap.size w w' ∧ w.heap.size + 2 ≤ w'.heap.size := by
  have e1 : (w.alloc A).heap.size = w.heap.size + 1 := by simp
  have e2 : ((w.alloc A).alloc B).heap.size = w.heap.size + 1 + 1 := by simp
  have hs := h.size
  rw [e2] at h hs
  refine ⟨?_, ?_, ?_, hs⟩
  · rw [h.block _ (by omega), Below.heap_alloc _ _ _ (by omega)]
    exact heap_alloc_last w A
  · rw [h.block _ (by omega), ← e1]
    exact heap_alloc_last (w.alloc A) B
  · exact (((Below.refl _ w).alloc (Nat.le_refl _) A).alloc (by omega) B).trans (h.mono (by omega))
theorem row7_both {w : World} {g : Nat} {t : TypeId} {a b c d e f m : Value} (h : w.heap[g]? = some (.cells #[a, b, c, d, e, f, m] t (0, 0))) :
    (∀ o, (w.alloc o).cell? ⟨g, 0, none⟩ = some a) ∧ (∀ o, (w.alloc o).cell? ⟨g, 1, none⟩ = some b) ∧ (∀ o, (w.alloc o).cell? ⟨g, 2, none⟩ = some c) ∧ (∀ o, (w.alloc o).cell? ⟨g, 3, none⟩ = some d) ∧ (∀ o, (w.alloc o).cell? ⟨g, 4, none⟩ = some e) ∧ (∀ o, (w.alloc o).cell? ⟨g, 5, none⟩ = some f) ∧ (∀ o, (w.alloc o).cell? ⟨g, 6, none⟩ = some m) := by
  refine ⟨fun o => ?_, fun o => ?_, fun o => ?_, fun o => ?_, fun o => ?_, fun o => ?_, fun o => ?_⟩ <;> obtain ⟨h0, h1, h2, h3, h4, h5, h6⟩ := row7_cells (row3_alloc h o) <;> assumption
theorem row3_frees {w : World} {g : Nat} {t : TypeId} {cs : Array Value} (h : w.heap[g]? = some (.cells cs t (0, 0))) :
    (∀ o, (w.alloc o).frozen? ⟨g, 0, none⟩ = false) ∧ (∀ o, (w.alloc o).frozen? ⟨g, 1, none⟩ = false) ∧ (∀ o, (w.alloc o).frozen? ⟨g, 2, none⟩ = false) :=
  ⟨fun o => (row3_free (row3_alloc h o)).1, fun o => (row3_free (row3_alloc h o)).2.1, fun o => (row3_free (row3_alloc h o)).2.2⟩
theorem one_after {w w' : World} {A : Obj} (h : Below (w.alloc A).heap.size (w.alloc A) w') : w'.heap[w.heap.size]? = some A ∧ w.heap.size + 1 ≤ w'.heap.size := by
  have e1 : (w.alloc A).heap.size = w.heap.size + 1 := by simp
  have hs := h.size
  rw [e1] at h hs
  exact ⟨by rw [h.block _ (by omega)]; exact heap_alloc_last w A, hs⟩
theorem Below.setCells3 {B g : Nat} {w w' : World} (h : Below B w w') (hg : B ≤ g) (a b c : Value) : Below B w (((w'.setCell ⟨g, 0, none⟩ a).setCell ⟨g, 1, none⟩ b).setCell ⟨g, 2, none⟩ c) :=
  ((h.setCell (p := ⟨g, 0, none⟩) hg _).setCell (p := ⟨g, 1, none⟩) hg _).setCell (p := ⟨g, 2, none⟩) hg _

section
variable (n1 b1 : Int) (x1 : Nat) (n2 b2 : Int) (x2 : Nat) (m : Bool) (ty tl td : Int)
set_option maxHeartbeats 1000000 in
theorem join_no (w : World)
    (HT : Hid (∀ W, Calls Try.prog 22 #[agR n1 b1 x1 n2 b2 x2 m] W fun e w' => e = .returned (.agg #[.int .u8 ty, .int .i64 tl, .int .i64 td]) ∧ Below W.heap.size W w'))
    (HS : Hid (∀ W, Calls Try.prog 15 #[.agg #[.int .u8 ty, .int .i64 tl, .int .i64 td]] W fun e w' => e = .returned (.tuple #[agR 0 0 0 0 0 0 false, .bool false]) ∧ Below W.heap.size W w')) :
    Calls Try.prog 18 #[agR n1 b1 x1 n2 b2 x2 m] w fun e w' => e = .returned (.tuple #[.agg #[.int .u8 0, .int .i64 0, .int .i64 0], .bool false]) ∧ Below w.heap.size w w' := by
  unfold agR at *
  go_enter Try.func18, Try.ntmps18
  go_wp2_with (first
    | (go_at_call 22; refine (HT.out _).mono ?_; rintro e w4 ⟨rfl, hb4⟩; obtain ⟨r0, r1, hbl, hsz⟩ := two_after hb4; have R0 := Lib.hid r0; have R1 := Lib.hid r1; have HSZ := Lib.hid hsz; have HBL := Lib.hid hbl; clear r0 r1 hb4 hbl hsz)
    | (go_at_call 15; refine (HS.out _).mono ?_; rintro e w5 ⟨rfl, hb5⟩; have hb6 := below_call hb5; obtain ⟨k0, k1, k2⟩ := row3_both (block_after hb6 R1.out); obtain ⟨f0, f1, f2⟩ := row3_frees (block_after hb6 R1.out); obtain ⟨r2, hs2⟩ := one_after hb5; obtain ⟨t0, t1, t2⟩ := row3_both r2; obtain ⟨a0, a1, a2, a3, a4, a5, a6⟩ := row7_both (block_after hb6 R0.out); have HS5 := Lib.hid (show w.heap.size ≤ w5.heap.size by have := HSZ.out; omega); have HBM := Lib.hid (HBL.out.trans (hb6.mono (by have := HSZ.out; omega))); clear hb5 hb6 r2 hs2))
  refine bodyPost_ret (v := .tuple #[.agg #[.int .u8 0, .int .i64 0, .int .i64 0], .bool false]) ?_ rfl ⟨rfl, ?_⟩
  · rw [results_cell_tmp rfl]
    go_simp
    try rfl
  · exact Below.setCells3 (HBM.out.alloc HS5.out _) (Nat.le_succ _) _ _ _
set_option maxHeartbeats 1000000 in
theorem join_yes (w : World)
    (HT : Hid (∀ W, Calls Try.prog 22 #[agR n1 b1 x1 n2 b2 x2 m] W fun e w' => e = .returned (.agg #[.int .u8 ty, .int .i64 tl, .int .i64 td]) ∧ Below W.heap.size W w'))
    (HS : Hid (∀ W, Calls Try.prog 15 #[.agg #[.int .u8 ty, .int .i64 tl, .int .i64 td]] W fun e w' => e = .returned (.tuple #[agR n1 b1 x1 n2 b2 x2 m, .bool true]) ∧ Below W.heap.size W w')) :
    Calls Try.prog 18 #[agR n1 b1 x1 n2 b2 x2 m] w fun e w' => e = .returned (.tuple #[.agg #[.int .u8 ty, .int .i64 tl, .int .i64 td], .bool true]) ∧ Below w.heap.size w w' := by
  unfold agR at *
  go_enter Try.func18, Try.ntmps18
  go_wp2_with (first
    | (go_at_call 22; refine (HT.out _).mono ?_; rintro e w4 ⟨rfl, hb4⟩; obtain ⟨r0, r1, hbl, hsz⟩ := two_after hb4; have R0 := Lib.hid r0; have R1 := Lib.hid r1; have HSZ := Lib.hid hsz; have HBL := Lib.hid hbl; clear r0 r1 hb4 hbl hsz)
    | (go_at_call 15; refine (HS.out _).mono ?_; rintro e w5 ⟨rfl, hb5⟩; have hb6 := below_call hb5; obtain ⟨k0, k1, k2⟩ := row3_both (block_after hb6 R1.out); obtain ⟨f0, f1, f2⟩ := row3_frees (block_after hb6 R1.out); obtain ⟨r2, hs2⟩ := one_after hb5; obtain ⟨t0, t1, t2⟩ := row3_both r2; obtain ⟨a0, a1, a2, a3, a4, a5, a6⟩ := row7_both (block_after hb6 R0.out); have HS5 := Lib.hid (show w.heap.size ≤ w5.heap.size by have := HSZ.out; omega); have HBM := Lib.hid (HBL.out.trans (hb6.mono (by have := HSZ.out; omega))); clear hb5 hb6 r2 hs2))
  refine bodyPost_ret (v := .tuple #[.agg #[.int .u8 ty, .int .i64 tl, .int .i64 td], .bool true]) ?_ rfl ⟨rfl, ?_⟩
  · rw [results_cell_tmp rfl]
    go_simp
    try rfl
  · exact Below.setCells3 (HBM.out.alloc HS5.out _) (Nat.le_succ _) _ _ _
set_option maxHeartbeats 1000000 in
theorem join_ne (w : World) (p1 c1 y1 p2 c2 y2 : Int) (mm : Bool) (hne : ¬ (p1 = n1 ∧ c1 = b1 ∧ y1 = (x1 : Int) ∧ p2 = n2 ∧ c2 = b2 ∧ y2 = (x2 : Int) ∧ mm = m))
    (HT : Hid (∀ W, Calls Try.prog 22 #[agR n1 b1 x1 n2 b2 x2 m] W fun e w' => e = .returned (.agg #[.int .u8 ty, .int .i64 tl, .int .i64 td]) ∧ Below W.heap.size W w'))
    (HS : Hid (∀ W, Calls Try.prog 15 #[.agg #[.int .u8 ty, .int .i64 tl, .int .i64 td]] W fun e w' => e = .returned (.tuple #[agR p1 c1 y1 p2 c2 y2 mm, .bool true]) ∧ Below W.heap.size W w')) :
    Calls Try.prog 18 #[agR n1 b1 x1 n2 b2 x2 m] w fun e w' => e = .returned (.tuple #[.agg #[.int .u8 0, .int .i64 0, .int .i64 0], .bool false]) ∧ Below w.heap.size w w' := by
  unfold agR at *
  go_enter Try.func18, Try.ntmps18
  go_wp2_with (first
    | (go_at_call 22; refine (HT.out _).mono ?_; rintro e w4 ⟨rfl, hb4⟩; obtain ⟨r0, r1, hbl, hsz⟩ := two_after hb4; have R0 := Lib.hid r0; have R1 := Lib.hid r1; have HSZ := Lib.hid hsz; have HBL := Lib.hid hbl; clear r0 r1 hb4 hbl hsz)
    | (go_at_call 15; refine (HS.out _).mono ?_; rintro e w5 ⟨rfl, hb5⟩; have hb6 := below_call hb5; obtain ⟨k0, k1, k2⟩ := row3_both (block_after hb6 R1.out); obtain ⟨f0, f1, f2⟩ := row3_frees (block_after hb6 R1.out); obtain ⟨r2, hs2⟩ := one_after hb5; obtain ⟨t0, t1, t2⟩ := row3_both r2; obtain ⟨a0, a1, a2, a3, a4, a5, a6⟩ := row7_both (block_after hb6 R0.out); have HS5 := Lib.hid (show w.heap.size ≤ w5.heap.size by have := HSZ.out; omega); have HBM := Lib.hid (HBL.out.trans (hb6.mono (by have := HSZ.out; omega))); clear hb5 hb6 r2 hs2))
  all_goals first
    | (exfalso; simp_all; done)
    | (refine bodyPost_ret (v := .tuple #[.agg #[.int .u8 0, .int .i64 0, .int .i64 0], .bool false]) ?_ rfl ⟨rfl, ?_⟩
       · rw [results_cell_tmp rfl]
         go_simp
         try rfl
       · exact Below.setCells3 (HBM.out.alloc HS5.out _) (Nat.le_succ _) _ _ _)
end
end Go.Proofs.Ytgokhpljmoojnaa
