/- Layer 11: may a token be; its size. -/
import Derived.Test.YtglbmghpkipipaaTxPl
import Derived.Test.YtglbmghpkipipaaTkSplit
namespace Go.Proofs.Ytglbmghpkipipaa
open Go.RowKit Go.Shelf

def tiC (t : Ti) : List Value := [.int .u8 (t.1.toNat : Int), .int .i64 t.2.1, .int .i64 t.2.2]
def tiV (t : Ti) : Value := .agg #[.int .u8 (t.1.toNat : Int), .int .i64 t.2.1, .int .i64 t.2.2]

set_option maxHeartbeats 1000000 in
theorem Right_any (t : Ti) (w : World) : Calls Try.prog 28 #[tiV t] w fun e w' => e = .returned (.bool (okT t)) ∧ Below w.heap.size w w' := by
  obtain ⟨b, n, d⟩ := t
  have hbd := b.toNat_lt
  unfold tiV
  dsimp only
  by_cases h0 : n = 0
  · have t0 : (n == 0) = true := by simp [h0]
    by_cases hd : d = 0
    · have t1 : (d == 0) = true := by simp [hd]
      have HO : Hid (okT (b, n, d) = true) := by show _ = _; subst h0; subst hd; rfl
      clear h0 hd
      go_enter Try.func28, Try.ntmps28
      go_wp2
      go_ret
      exact ⟨by rw [HO.out]; rfl, (Below.refl _ w).alloc (Nat.le_refl _) _⟩
    · have t1 : (d == 0) = false := by simp [hd]
      have HO : Hid (okT (b, n, d) = false) := by show _ = _; subst h0; unfold okT; simp [hd]
      have u1 : decide (3 ≤ n) = false := decide_eq_false (by omega)
      have u2 : decide (2 < n) = false := decide_eq_false (by omega)
      clear h0 hd
      go_enter Try.func28, Try.ntmps28
      go_wp2
      go_ret
      exact ⟨by rw [HO.out]; rfl, (Below.refl _ w).alloc (Nat.le_refl _) _⟩
  · have t0 : (n == 0) = false := by simp [h0]
    by_cases h_n3 : 3 ≤ n
    · have v00 : decide (3 ≤ n) = true := decide_eq_true (by omega)
      have v01 : decide (2 < n) = true := decide_eq_true (by omega)
      by_cases h_n258 : n ≤ 258
      · have v10 : decide (n ≤ 258) = true := decide_eq_true (by omega)
        have v11 : decide (n < 259) = true := decide_eq_true (by omega)
        by_cases h_d1 : 1 ≤ d
        · have v20 : decide (1 ≤ d) = true := decide_eq_true (by omega)
          have v21 : decide (0 < d) = true := decide_eq_true (by omega)
          by_cases h_dw : d ≤ 32768
          · have v30 : decide (d ≤ 32768) = true := decide_eq_true (by omega)
            have v31 : decide (d < 32769) = true := decide_eq_true (by omega)
            by_cases hb : b.toNat = 0
            · have t5 : (b.toNat == 0) = true := by simp [hb]
              have t6 : ((b.toNat : Int) == 0) = true := by simp [hb]
              have hz : b = 0 := UInt8.toNat.inj hb
              have t7 : (b == 0) = true := by simp [hz]
              have HZ0 : Hid (b = 0) := hz
              clear hz hb
              have HO : Hid (okT (b, n, d) = true) := by show _ = _; unfold okT; simp only; rw [if_neg h0]; exact decide_eq_true ⟨h_n3, h_n258, h_d1, h_dw, HZ0.out⟩
              clear h0 h_n3 h_n258 h_d1 h_dw
              go_enter Try.func28, Try.ntmps28
              go_wp2
              go_ret
              exact ⟨by rw [HO.out]; rfl, (Below.refl _ w).alloc (Nat.le_refl _) _⟩
            · have t5 : (b.toNat == 0) = false := by simp [hb]
              have t6 : ((b.toNat : Int) == 0) = false := by simp; omega
              have t7 : (b == 0) = false := by simp; intro e; exact hb (by rw [e]; rfl)
              have HO : Hid (okT (b, n, d) = false) := by show _ = _; unfold okT; simp only; rw [if_neg h0]; exact decide_eq_false (fun h => hb (by rw [h.2.2.2.2]; rfl))
              go_enter Try.func28, Try.ntmps28
              go_wp2
              go_ret
              exact ⟨by rw [HO.out]; rfl, (Below.refl _ w).alloc (Nat.le_refl _) _⟩
          · have v30 : decide (d ≤ 32768) = false := decide_eq_false (by omega)
            have v31 : decide (d < 32769) = false := decide_eq_false (by omega)
            have HO : Hid (okT (b, n, d) = false) := by show _ = _; unfold okT; simp only; rw [if_neg h0]; exact decide_eq_false (fun h => by omega)
            go_enter Try.func28, Try.ntmps28
            go_wp2
            go_ret
            exact ⟨by rw [HO.out]; rfl, (Below.refl _ w).alloc (Nat.le_refl _) _⟩
        · have v20 : decide (1 ≤ d) = false := decide_eq_false (by omega)
          have v21 : decide (0 < d) = false := decide_eq_false (by omega)
          have HO : Hid (okT (b, n, d) = false) := by show _ = _; unfold okT; simp only; rw [if_neg h0]; exact decide_eq_false (fun h => by omega)
          go_enter Try.func28, Try.ntmps28
          go_wp2
          go_ret
          exact ⟨by rw [HO.out]; rfl, (Below.refl _ w).alloc (Nat.le_refl _) _⟩
      · have v10 : decide (n ≤ 258) = false := decide_eq_false (by omega)
        have v11 : decide (n < 259) = false := decide_eq_false (by omega)
        have HO : Hid (okT (b, n, d) = false) := by show _ = _; unfold okT; simp only; rw [if_neg h0]; exact decide_eq_false (fun h => by omega)
        go_enter Try.func28, Try.ntmps28
        go_wp2
        go_ret
        exact ⟨by rw [HO.out]; rfl, (Below.refl _ w).alloc (Nat.le_refl _) _⟩
    · have v00 : decide (3 ≤ n) = false := decide_eq_false (by omega)
      have v01 : decide (2 < n) = false := decide_eq_false (by omega)
      have HO : Hid (okT (b, n, d) = false) := by show _ = _; unfold okT; simp only; rw [if_neg h0]; exact decide_eq_false (fun h => by omega)
      go_enter Try.func28, Try.ntmps28
      go_wp2
      go_ret
      exact ⟨by rw [HO.out]; rfl, (Below.refl _ w).alloc (Nat.le_refl _) _⟩
set_option maxHeartbeats 400000 in
theorem szT_any (t : Ti) (w : World) : Calls Try.prog 29 #[tiV t] w fun e w' => e = .returned (.int .i64 (szT t)) ∧ Below w.heap.size w w' := by
  obtain ⟨b, n, d⟩ := t
  unfold tiV
  dsimp only
  by_cases h : n < 1
  · have HZ : Hid (szT (b, n, d) = 1) := by show _ = _; unfold szT; simp only; rw [if_pos h]
    have hm : (if n < 1 then (1 : Int) else n) = 1 := if_pos h
    have hm3 : (if (1 : Int) < n then n else 1) = 1 := if_neg (by omega)
    clear h
    go_enter Try.func29, Try.ntmps29
    go_wp2
    go_ret
    exact ⟨by rw [HZ.out]; rfl, (Below.refl _ w).alloc (Nat.le_refl _) _⟩
  · have HZ : Hid (szT (b, n, d) = n) := by show _ = _; unfold szT; simp only; rw [if_neg h]
    have hm : (if n < 1 then (1 : Int) else n) = n := if_neg h
    have hm3 : (if (1 : Int) < n then n else 1) = n := by split <;> omega
    clear h
    go_enter Try.func29, Try.ntmps29
    go_wp2
    go_ret
    exact ⟨by rw [HZ.out]; rfl, (Below.refl _ w).alloc (Nat.le_refl _) _⟩
end Go.Proofs.Ytglbmghpkipipaa
