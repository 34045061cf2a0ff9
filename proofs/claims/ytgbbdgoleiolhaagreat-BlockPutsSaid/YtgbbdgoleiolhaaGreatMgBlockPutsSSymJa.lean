/- Layer 12: Join, whole. -/
import Derived.Test.YtgbbdgoleiolhaaGreatMgBlockPuts28
namespace Go.Proofs.YtgbbdgoleiolhaaGreat
open Go.RowKit SymP

section
variable (n1 b1 : Int) (x1 : Nat) (n2 b2 : Int) (x2 : Nat)

theorem split_is (l d : Nat) (l0 : l < 256) (d0 : d < 32768) (W : World) :
    Calls Tryz.prog 24 #[agT 0 (l + 3 : Nat) (d + 1 : Nat)] W fun e w' => e = .returned (.tuple #[agR (classC l + 257 : Nat) (bitsC (classC l) : Nat) (l % 2 ^ bitsC (classC l) : Nat) (classC d : Nat) (bitsC (classC d) : Nat) (d % 2 ^ bitsC (classC d) : Nat) true, .bool true]) ∧ Below W.heap.size W w' := split_match l d W l0 d0

/-- The number of a number's class. -/
theorem valC_class {v : Nat} (h : v < 32768) : valC (classC v : Nat) (bitsC (classC v) : Nat) (v % 2 ^ bitsC (classC v)) = some v := by
  obtain ⟨c1, c2⟩ := class_is v h
  unfold valC
  rw [Int.toNat_natCast, if_pos ⟨by omega, by omega, rfl, Nat.mod_lt _ (Nat.pow_pos (by omega))⟩, c2]
theorem class_valC {n b : Int} {x v : Nat} (h : valC n b x = some v) : v < 32768 ∧ n = (classC v : Nat) ∧ b = (bitsC (classC v) : Nat) ∧ x = v % 2 ^ bitsC (classC v) := by
  unfold valC at h
  split at h
  · rename_i hc
    obtain ⟨h0, h1, h2, h3⟩ := hc
    obtain ⟨m, rfl⟩ := Int.eq_ofNat_of_zero_le h0
    rw [Int.toNat_natCast] at h2 h3 h
    cases h
    have ht := baseC_top m (by omega)
    have e1 := class_of (v := baseC m + x) (n := m) (by omega) (by omega) (by omega)
    have e2 := extra_of (v := baseC m + x) (n := m) (by omega) (by omega) (by omega)
    rw [e1]
    exact ⟨by omega, rfl, h2, by rw [e2]; omega⟩
  · cases h

theorem join_all (m : Bool) (w : World) (h1 : x1 < 4294967296) (h2 : x2 < 4294967296) (g0 : -9223372036854775808 ≤ n1) (g1 : n1 ≤ 9223372036854775807) :
    Calls Tryz.prog 61 #[agR n1 b1 x1 n2 b2 x2 m] w fun e w' => e = .returned (joinV (joinR n1 b1 x1 n2 b2 x2 m)) ∧ Below w.heap.size w w' := by
  cases m with
  | false =>
    have HT := Lib.hid (fun W => token_byte n1 b1 x1 n2 b2 x2 W)
    obtain ⟨z, hz⟩ : ∃ z : Nat, IntKind.u8.wrap n1 = z ∧ z < 256 ∧ (z : Int) = n1 % 256 := ⟨(n1 % 256).toNat, by rw [IntKind.wrap_u8]; omega, by omega, by omega⟩
    obtain ⟨hz1, hz2, hz3⟩ := hz
    rw [hz1] at HT
    have HS := Lib.hid (fun W => split_byte z W hz2)
    unfold joinR
    rw [if_pos rfl]
    by_cases hc : 0 ≤ n1 ∧ n1 ≤ 255 ∧ b1 = 0 ∧ x1 = 0 ∧ n2 = 0 ∧ b2 = 0 ∧ x2 = 0
    · rw [if_pos hc]
      obtain ⟨g0, g1, rfl, rfl, rfl, rfl, rfl⟩ := hc
      have e : n1 = z := by omega
      subst e
      rw [Int.toNat_natCast]
      exact join_yes z 0 0 0 0 0 false z 0 0 w HT HS
    · rw [if_neg hc]
      exact join_ne n1 b1 x1 n2 b2 x2 false z 0 0 w z 0 0 0 0 0 false (by intro h; apply hc; omega) HT HS
  | true =>
    have HT := Lib.hid (fun W => token_match n1 b1 x1 n2 b2 x2 W h1 h2)
    have p32 := vN_lt (wrap64 (n1 - 257)) b1 x1
    have q32 := vN_lt n2 b2 x2
    unfold joinR
    rw [if_neg (by simp)]
    by_cases hp : vN (wrap64 (n1 - 257)) b1 x1 < 256
    · have HS := Lib.hid (fun W => split_is (vN (wrap64 (n1 - 257)) b1 x1) (vN n2 b2 x2) hp q32 W)
      by_cases hc : 257 ≤ n1 ∧ n1 ≤ 272 ∧ (valC (n1 - 257) b1 x1).isSome = true ∧ (valC n2 b2 x2).isSome = true
      · rw [if_pos hc]
        obtain ⟨c1, c2, c3, c4⟩ := hc
        have hw : wrap64 (n1 - 257) = n1 - 257 := by rw [← IntWalk.i64_left]; exact IntWalk.i64_in _ (by omega)
        rw [hw] at HT HS hp p32
        obtain ⟨p, hp2⟩ := Option.isSome_iff_exists.1 c3
        obtain ⟨q, hq2⟩ := Option.isSome_iff_exists.1 c4
        have e1 : vN (n1 - 257) b1 x1 = p := by unfold vN; rw [hp2]; rfl
        have e2 : vN n2 b2 x2 = q := by unfold vN; rw [hq2]; rfl
        rw [e1, e2] at HT HS ⊢
        obtain ⟨_, a1, a2, a3⟩ := class_valC hp2
        obtain ⟨_, a4, a5, a6⟩ := class_valC hq2
        rw [← a2, ← a3, ← a4, ← a5, ← a6] at HS
        have a7 : ((classC p + 257 : Nat) : Int) = n1 := by omega
        rw [a7] at HS
        exact join_yes n1 b1 x1 n2 b2 x2 true 0 (p + 3 : Nat) (q + 1 : Nat) w HT HS
      · rw [if_neg hc]
        refine join_ne n1 b1 x1 n2 b2 x2 true 0 _ _ w _ _ _ _ _ _ true ?_ HT HS
        rintro ⟨d1, d2, d3, d4, d5, d6, _⟩
        apply hc
        have v1 := valC_class p32
        have v2 := valC_class q32
        have k1 := (class_is _ p32).1
        have k2 : classC (vN (wrap64 (n1 - 257)) b1 x1) < 16 := by
          by_cases g : classC (vN (wrap64 (n1 - 257)) b1 x1) < 16
          · exact g
          · have b16 : baseC 16 = 256 := by decide
            have := (baseC_le_iff (v := vN (wrap64 (n1 - 257)) b1 x1) (n := 16) p32 (by omega)).2 (by omega)
            omega
        have n1e : n1 - 257 = ((classC (vN (wrap64 (n1 - 257)) b1 x1) : Nat) : Int) := by omega
        have x1e : vN (wrap64 (n1 - 257)) b1 x1 % 2 ^ bitsC (classC (vN (wrap64 (n1 - 257)) b1 x1)) = x1 := by omega
        have x2e : vN n2 b2 x2 % 2 ^ bitsC (classC (vN n2 b2 x2)) = x2 := by omega
        rw [x1e, d2, ← n1e] at v1
        rw [x2e, d4, d5] at v2
        exact ⟨by omega, by omega, by rw [v1]; rfl, by rw [v2]; rfl⟩
    · have hr : rightT 0 ((vN (wrap64 (n1 - 257)) b1 x1 + 3 : Nat) : Int) ((vN n2 b2 x2 + 1 : Nat) : Int) = false := by
        unfold rightT
        rw [if_neg (by omega)]
        simp
        omega
      have HS := Lib.hid (fun W => split_no 0 ((vN (wrap64 (n1 - 257)) b1 x1 + 3 : Nat) : Int) ((vN n2 b2 x2 + 1 : Nat) : Int) W hr)
      rw [if_neg (fun hc => by
        obtain ⟨c1, c2, c3, c4⟩ := hc
        have hw : wrap64 (n1 - 257) = n1 - 257 := by rw [← IntWalk.i64_left]; exact IntWalk.i64_in _ (by omega)
        rw [hw] at hp
        exact hp (valC_low (by omega)))]
      exact join_no n1 b1 x1 n2 b2 x2 true 0 _ _ w HT HS
end
end Go.Proofs.YtgbbdgoleiolhaaGreat
