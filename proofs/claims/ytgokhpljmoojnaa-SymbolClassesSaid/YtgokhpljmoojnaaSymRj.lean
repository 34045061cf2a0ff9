/- Layer 12: the token of symbols, and the document's answer for it. -/
import Derived.Test.YtgokhpljmoojnaaSymJoin
namespace Go.Proofs.Ytgokhpljmoojnaa
open Go.RowKit SymP
attribute [local go_sem ↓] Go.wp_at_zero Go.wp_at_succ

/-- A token as a value. -/
def agT (y l d : Int) : Value := .agg #[.int .u8 y, .int .i64 l, .int .i64 d]

theorem rvalue_all (n b : Int) (x : Nat) (w : World) (hx : x < 4294967296) :
    Calls Try.prog 10 #[agC n b x] w fun e w' => e = .returned (.tuple #[.int .i64 (vN n b x : Nat), .bool (valC n b x).isSome]) ∧ Below w.heap.size w w' := by
  by_cases hn : n < 0 ∨ 30 ≤ n
  · have h : valC n b x = none := by unfold valC; rw [if_neg (by omega)]
    unfold vN
    rw [h]
    exact rvalue_out n b x w hn
  · obtain ⟨m, rfl⟩ := Int.eq_ofNat_of_zero_le (show 0 ≤ n by omega)
    have hm : m < 30 := by omega
    by_cases hb : b = (bitsC m : Nat)
    · subst hb
      by_cases hq : x < 2 ^ bitsC m
      · have h : valC (m : Int) ((bitsC m : Nat) : Int) x = some (baseC m + x) := by unfold valC; rw [Int.toNat_natCast, if_pos ⟨by omega, by omega, rfl, hq⟩]
        unfold vN
        rw [h]
        exact rvalue_some m x w hm hx hq
      · have h : valC (m : Int) ((bitsC m : Nat) : Int) x = none := by unfold valC; rw [Int.toNat_natCast, if_neg (fun h => hq h.2.2.2)]
        unfold vN
        rw [h]
        exact rvalue_big m x w hm hx hq
    · have h : valC (m : Int) b x = none := by unfold valC; rw [Int.toNat_natCast, if_neg (fun h => hb h.2.2.1)]
      unfold vN
      rw [h]
      exact rvalue_bits m b x w hm hb

section
variable (n1 b1 : Int) (x1 : Nat) (n2 b2 : Int) (x2 : Nat)
theorem rjoin_byte (n1 : Nat) (w : World) (h : n1 < 256) :
    Calls Try.prog 19 #[agC n1 0 0, agC 0 0 0, .bool false] w fun e w' => e = .returned (.tuple #[agT n1 0 0, .bool true]) ∧ Below w.heap.size w w' := by
  have hw : IntKind.u8.wrap (n1 : Int) = n1 := by rw [IntKind.wrap_u8]; omega
  have h0 : ¬ ((n1 : Int) < 0) := by omega
  have h1 : ¬ ((255 : Int) < (n1 : Int)) := by omega
  unfold agC agT
  go_enter Try.func19, Try.ntmps19
  go_wp2
  all_goals
    (refine bodyPost_ret (v := .tuple #[.agg #[.int .u8 (n1 : Int), .int .i64 0, .int .i64 0], .bool true]) ?_ rfl ⟨rfl, ?_⟩
     · rw [results_cell_tmp rfl]
       go_simp
       try rfl
     · repeat (first | exact Below.refl _ _ | refine Below.drew ?_ | refine Below.alloc ?_ (by simp <;> omega) _))
set_option maxHeartbeats 1000000 in
theorem rjoin_byte_no (w : World) (h : ¬ (0 ≤ n1 ∧ n1 ≤ 255 ∧ b1 = 0 ∧ x1 = 0 ∧ n2 = 0 ∧ b2 = 0 ∧ x2 = 0)) :
    Calls Try.prog 19 #[agC n1 b1 x1, agC n2 b2 x2, .bool false] w fun e w' => e = .returned (.tuple #[agT 0 0 0, .bool false]) ∧ Below w.heap.size w w' := by
  unfold agC agT
  go_enter Try.func19, Try.ntmps19
  go_wp2
  all_goals (try (exfalso; simp only [bne_eq_false_iff_eq] at *; omega))
  all_goals
    (refine bodyPost_ret (v := .tuple #[.agg #[.int .u8 0, .int .i64 0, .int .i64 0], .bool false]) ?_ rfl ⟨rfl, ?_⟩
     · rw [results_cell_tmp rfl]
       go_simp
       try rfl
     · repeat (first | exact Below.refl _ _ | refine Below.drew ?_ | refine Below.alloc ?_ (by simp <;> omega) _))
theorem rjoin_low (w : World) (h : n1 < 257 ∨ 272 < n1) :
    Calls Try.prog 19 #[agC n1 b1 x1, agC n2 b2 x2, .bool true] w fun e w' => e = .returned (.tuple #[agT 0 0 0, .bool false]) ∧ Below w.heap.size w w' := by
  unfold agC agT
  go_enter Try.func19, Try.ntmps19
  go_wp2
  all_goals
    (refine bodyPost_ret (v := .tuple #[.agg #[.int .u8 0, .int .i64 0, .int .i64 0], .bool false]) ?_ rfl ⟨rfl, ?_⟩
     · rw [results_cell_tmp rfl]
       go_simp
       try rfl
     · repeat (first | exact Below.refl _ _ | refine Below.drew ?_ | refine Below.alloc ?_ (by simp <;> omega) _))

theorem row3_two {w : World} {g : Nat} {t : TypeId} {a b c : Value} (h : w.heap[g]? = some (.cells #[a, b, c] t (0, 0))) :
    (∀ o u, ((w.alloc o).alloc u).cell? ⟨g, 0, none⟩ = some a) ∧ (∀ o u, ((w.alloc o).alloc u).cell? ⟨g, 1, none⟩ = some b) ∧ (∀ o u, ((w.alloc o).alloc u).cell? ⟨g, 2, none⟩ = some c) ∧
    (∀ o u, ((w.alloc o).alloc u).frozen? ⟨g, 0, none⟩ = false) ∧ (∀ o u, ((w.alloc o).alloc u).frozen? ⟨g, 1, none⟩ = false) ∧ (∀ o u, ((w.alloc o).alloc u).frozen? ⟨g, 2, none⟩ = false) :=
  ⟨fun o u => (row3_cells (row3_alloc (row3_alloc h o) u)).1, fun o u => (row3_cells (row3_alloc (row3_alloc h o) u)).2.1, fun o u => (row3_cells (row3_alloc (row3_alloc h o) u)).2.2,
   fun o u => (row3_free (row3_alloc (row3_alloc h o) u)).1, fun o u => (row3_free (row3_alloc (row3_alloc h o) u)).2.1, fun o u => (row3_free (row3_alloc (row3_alloc h o) u)).2.2⟩
theorem right_of {p q : Nat} (hp : p < 256) (hq : q < 32768) : rightT 0 ((p + 3 : Nat) : Int) ((q + 1 : Nat) : Int) = true := by
  unfold rightT
  rw [if_neg (by omega)]
  simp
  omega
set_option maxHeartbeats 2000000 in
theorem rjoin_high (w : World) (l1 : 257 ≤ n1) (l2 : n1 ≤ 272) (h1 : x1 < 4294967296) (h2 : x2 < 4294967296) (o1 o2 : Bool) (g1 : (valC (n1 - 257) b1 x1).isSome = o1) (g2 : (valC n2 b2 x2).isSome = o2) (hp : vN (n1 - 257) b1 x1 < 256) :
    Calls Try.prog 19 #[agC n1 b1 x1, agC n2 b2 x2, .bool true] w fun e w' => e = .returned (.tuple #[if o1 && o2 then agT 0 (vN (n1 - 257) b1 x1 + 3 : Nat) (vN n2 b2 x2 + 1 : Nat) else agT 0 0 0, .bool (o1 && o2)]) ∧ Below w.heap.size w w' := by
  have HV1 := Lib.hid (fun W => rvalue_all (n1 - 257) b1 x1 W h1)
  have HV2 := Lib.hid (fun W => rvalue_all n2 b2 x2 W h2)
  have lt2 := vN_lt n2 b2 x2
  rw [g1] at HV1
  rw [g2] at HV2
  clear g1 g2
  have hs : IntKind.i64.wrap (n1 - 257) = n1 - 257 := IntWalk.i64_in _ (by omega)
  generalize vN (n1 - 257) b1 x1 = p at *
  generalize vN n2 b2 x2 = q at *
  have HR := Lib.hid (fun W => rright_any 0 ((p + 3 : Nat) : Int) ((q + 1 : Nat) : Int) W)
  rw [right_of hp lt2] at HR
  obtain ⟨P, hP⟩ : ∃ P, p + 3 = P := ⟨_, rfl⟩
  obtain ⟨Q, hQ⟩ : ∃ Q, q + 1 = Q := ⟨_, rfl⟩
  rw [hP, hQ] at HR ⊢
  have hpw : IntKind.i64.wrap ((p : Int) + 3) = P := by rw [IntWalk.i64_in _ (by omega)]; omega
  have hqw : IntKind.i64.wrap ((q : Int) + 1) = Q := by rw [IntWalk.i64_in _ (by omega)]; omega
  clear hP hQ
  unfold agC agT at *
  cases o1 <;> cases o2
  all_goals simp only [Bool.and_self, Bool.and_true, Bool.and_false, if_true, if_false, Bool.false_eq_true]
  all_goals go_enter Try.func19, Try.ntmps19
  all_goals go_wp2_with (first
    | (go_at_call 10; refine (HV1.out _).mono ?_; clear HV1; rintro e w4 ⟨rfl, hb4⟩; obtain ⟨r0, r1, r2, hbl, hsz⟩ := three_after hb4; have R2 := Lib.hid r2; have HSZ := Lib.hid hsz; obtain ⟨q0, q1, q2⟩ := row3_cells r1; have HBL := Lib.hid hbl; clear r0 r1 r2 hb4 hbl hsz)
    | (go_at_call 10; refine (HV2.out _).mono ?_; clear HV2; rintro e w5 ⟨rfl, hb5⟩; have r5 := block_after hb5 R2.out; obtain ⟨k0, k1, k2⟩ := row3_both r5; obtain ⟨f0, f1, f2⟩ := row3_frees r5; obtain ⟨k3, k4, k5, f3, f4, f5⟩ := row3_two r5; have HS5 := Lib.hid (show w.heap.size + 3 ≤ w5.heap.size by have := HSZ.out; have := hb5.size; omega); have HBM := Lib.hid (HBL.out.trans (hb5.mono (by have := HSZ.out; omega))); clear hb5 r5)
    | (go_at_call 16; refine (HR.out _).mono ?_; rintro e w6 ⟨rfl, rfl⟩))
  rotate_right
  · refine bodyPost_ret (v := .tuple #[.agg #[.int .u8 0, .int .i64 P, .int .i64 Q], .bool true]) ?_ rfl ⟨rfl, ?_⟩
    · rw [results_cell_tmp rfl]
      go_simp
      try rfl
    · exact Below.setCells3 ((HBM.out.alloc (by have := HS5.out; omega) _).alloc (by have := HS5.out; simp; omega) _) (by omega) _ _ _
  all_goals
    (refine bodyPost_ret (v := .tuple #[.agg #[.int .u8 0, .int .i64 0, .int .i64 0], .bool false]) ?_ rfl ⟨rfl, ?_⟩
     · rw [results_cell_tmp rfl]
       go_simp
       try rfl
     · exact Below.setCells3 (HBM.out.alloc (by have := HS5.out; omega) _) (by omega) _ _ _)

/-- The token of symbols, if they are one's: its byte, Len and Dist. -/
def joinR (m : Bool) : Option (Nat × Nat × Nat) :=
  if m = false then (if 0 ≤ n1 ∧ n1 ≤ 255 ∧ b1 = 0 ∧ x1 = 0 ∧ n2 = 0 ∧ b2 = 0 ∧ x2 = 0 then some (n1.toNat, 0, 0) else none)
  else if 257 ≤ n1 ∧ n1 ≤ 272 ∧ (valC (n1 - 257) b1 x1).isSome = true ∧ (valC n2 b2 x2).isSome = true then some (0, vN (n1 - 257) b1 x1 + 3, vN n2 b2 x2 + 1) else none

/-- What an answer that may lack comes to. -/
def joinV : Option (Nat × Nat × Nat) → Value
  | some (y, l, d) => .tuple #[agT y l d, .bool true]
  | none => .tuple #[agT 0 0 0, .bool false]

theorem valC_low {n b : Int} {x : Nat} (h : n ≤ 15) : vN n b x < 256 := by
  unfold vN valC
  split
  · rename_i hc
    obtain ⟨h0, h1, h2, h3⟩ := hc
    obtain ⟨m, rfl⟩ := Int.eq_ofNat_of_zero_le h0
    rw [Int.toNat_natCast] at h3 ⊢
    simp only [Option.getD_some]
    have h4 := baseC_mono (m := m + 1) (n := 16) (by omega) (by omega)
    rw [baseC_next m (by omega)] at h4
    have h5 : baseC 16 = 256 := by decide
    omega
  · simp
theorem rjoin_all (m : Bool) (w : World) (h1 : x1 < 4294967296) (h2 : x2 < 4294967296) :
    Calls Try.prog 19 #[agC n1 b1 x1, agC n2 b2 x2, .bool m] w fun e w' => e = .returned (joinV (joinR n1 b1 x1 n2 b2 x2 m)) ∧ Below w.heap.size w w' := by
  cases m with
  | false =>
    unfold joinR
    rw [if_pos rfl]
    by_cases hc : 0 ≤ n1 ∧ n1 ≤ 255 ∧ b1 = 0 ∧ x1 = 0 ∧ n2 = 0 ∧ b2 = 0 ∧ x2 = 0
    · rw [if_pos hc]
      obtain ⟨g0, g1, rfl, rfl, rfl, rfl, rfl⟩ := hc
      obtain ⟨m, rfl⟩ := Int.eq_ofNat_of_zero_le g0
      rw [Int.toNat_natCast]
      exact rjoin_byte m w (by omega)
    · rw [if_neg hc]
      exact rjoin_byte_no n1 b1 x1 n2 b2 x2 w hc
  | true =>
    unfold joinR
    rw [if_neg (by simp)]
    by_cases hl : n1 < 257 ∨ 272 < n1
    · rw [if_neg (by omega)]
      exact rjoin_low n1 b1 x1 n2 b2 x2 w hl
    · refine (rjoin_high n1 b1 x1 n2 b2 x2 w (by omega) (by omega) h1 h2 _ _ rfl rfl (valC_low (by omega))).mono ?_
      rintro e w' ⟨rfl, hb⟩
      refine ⟨?_, hb⟩
      generalize (valC (n1 - 257) b1 x1).isSome = o1
      generalize (valC n2 b2 x2).isSome = o2
      cases o1 <;> cases o2
      · rw [if_neg (by simp), if_neg (by simp)]; rfl
      · rw [if_neg (by simp), if_neg (by simp)]; rfl
      · rw [if_neg (by simp), if_neg (by simp)]; rfl
      · have hc : 257 ≤ n1 ∧ n1 ≤ 272 ∧ true = true ∧ true = true := ⟨by omega, by omega, rfl, rfl⟩
        rw [if_pos hc]; rfl
end
end Go.Proofs.Ytgokhpljmoojnaa
