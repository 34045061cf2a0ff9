/- Layer 12: the laws' common: the chapter's example. -/
import Derived.Test.YtgokhpljmoojnaaSymJa
namespace Go.Proofs.Ytgokhpljmoojnaa
open Go.RowKit SymP
attribute [local go_sem ↓] Go.wp_at_zero Go.wp_at_succ

theorem lives12_any (w : World) : Calls Try.prog 12 #[] w fun e w' => e = .returned (.bool true) ∧ Below w.heap.size w w' := by
  have HOF := Lib.hid (fun W => of_inx 9 W (by omega))
  rw [show classC 9 = 6 by decide, show bitsC 6 = 2 by decide, show 9 % 2 ^ 2 = 1 by decide] at HOF
  unfold agC at HOF
  go_enter Try.func12, Try.ntmps12
  go_wp2_with (go_at_call 7; refine (HOF.out _).mono ?_; rintro e w4 ⟨rfl, rfl | rfl⟩)
  all_goals go_ret
  all_goals refine ⟨rfl, ?_⟩
  all_goals repeat (first | exact Below.refl _ _ | refine Below.drew ?_ | refine Below.alloc ?_ (by simp <;> omega) _)

theorem of_all (v : Int) : ∃ (a b c : Int) (o : Bool), o = decide (0 ≤ v ∧ v < 32768) ∧ ∀ W : World,
    Calls Try.prog 7 #[.int .i64 v] W fun e w' => e = .returned (.tuple #[.agg #[.int .i64 a, .int .i64 b, .int .u32 c], .bool o]) ∧ (W.alloc (.cells #[.int .i64 a, .int .i64 b, .int .u32 c] 24) = w' ∨ (W.alloc (.cells #[.int .i64 a, .int .i64 b, .int .u32 c] 24)).drew = w') := by
  by_cases h : 0 ≤ v ∧ v < 32768
  · obtain ⟨m, rfl⟩ := Int.eq_ofNat_of_zero_le h.1
    exact ⟨_, _, _, true, by simp; omega, fun W => of_inx m W (by omega)⟩
  · refine ⟨0, 0, 0, false, by simp; omega, fun W => (of_outx v W (by omega)).mono ?_⟩
    rintro e w' ⟨rfl, h⟩
    exact ⟨rfl, .inl h⟩

theorem rises_out (v u : Int) (w : World) (h : ¬ (0 ≤ v ∧ v < 32768) ∨ ¬ (0 ≤ u ∧ u < 32768) ∨ u < v) : Calls Try.prog 6 #[.int .i64 v, .int .i64 u] w fun e w' => e = .returned (.bool true) ∧ Below w.heap.size w w' := by
  obtain ⟨a1, b1, c1, o1, g1, h1⟩ := of_all v
  obtain ⟨a2, b2, c2, o2, g2, h2⟩ := of_all u
  have hc : o1 = false ∨ o2 = false ∨ u < v := by
    rcases h with h | h | h
    · exact .inl (by rw [g1]; simpa using h)
    · exact .inr (.inl (by rw [g2]; simpa using h))
    · exact .inr (.inr h)
  have H1 := Lib.hid h1
  have H2 := Lib.hid h2
  clear g1 g2 h1 h2 h
  cases o1 <;> cases o2
  all_goals try (have huv : u < v := by simpa using hc)
  all_goals clear hc
  all_goals go_enter Try.func6, Try.ntmps6
  all_goals go_wp2_with (first
    | (go_at_call 7; refine (H1.out _).mono ?_; clear H1; rintro e w4 ⟨rfl, rfl | rfl⟩)
    | (go_at_call 7; refine (H2.out _).mono ?_; clear H2; rintro e w4 ⟨rfl, rfl | rfl⟩)
    | (go_at_call 12; refine (lives12_any _).mono ?_; rintro e w9 ⟨rfl, hb9⟩; have HB9 := Lib.hid (Below.trans (show Below w.heap.size w _ from (by repeat (first | exact Below.refl _ _ | refine Below.drew ?_ | refine Below.alloc ?_ (by simp <;> omega) _))) (hb9.mono (by simp <;> omega))); clear hb9))
  all_goals go_ret
  all_goals exact ⟨rfl, HB9.out⟩

/-- Numbers of classes: greater numbers have no lower class. -/
theorem rises_in (v u : Nat) (w : World) (hu : u < 32768) (h : v ≤ u) : Calls Try.prog 6 #[.int .i64 v, .int .i64 u] w fun e w' => e = .returned (.bool true) ∧ Below w.heap.size w w' := by
  have H1 := Lib.hid (fun W => of_inx v W (by omega))
  have H2 := Lib.hid (fun W => of_inx u W hu)
  obtain ⟨c30, hv⟩ := class_is v (by omega)
  have hle := class_mono h hu
  have HB := Lib.hid (fun W => base_in (classC v) W c30)
  have HV := Lib.hid (fun W => value_some (classC v) (v % 2 ^ bitsC (classC v)) W c30 (Nat.mod_lt _ (Nat.pow_pos (by omega))))
  rw [hv] at HV
  have hbt := baseC_top (classC v) c30
  generalize classC v = c1 at *
  generalize classC u = c2 at *
  generalize bitsC c1 = k1 at *
  generalize bitsC c2 = k2 at *
  generalize baseC c1 = y at *
  generalize v % 2 ^ k1 = x at *
  generalize u % 2 ^ k2 = x2 at *
  have hxx : IntKind.i64.wrap (x : Int) = x := IntWalk.i64_in _ (by omega)
  have hyx : IntKind.i64.wrap ((y : Int) + x) = v := by rw [IntWalk.i64_in _ (by omega)]; omega
  have hle2 : (c1 : Int) ≤ c2 := by omega
  have huv : ¬ ((u : Int) < v) := by omega
  clear hbt hv hle
  unfold agC at *
  go_enter Try.func6, Try.ntmps6
  go_wp2_with (first
    | (go_at_call 7; refine (H1.out _).mono ?_; clear H1; rintro e w4 ⟨rfl, rfl | rfl⟩)
    | (go_at_call 7; refine (H2.out _).mono ?_; clear H2; rintro e w4 ⟨rfl, rfl | rfl⟩)
    | (go_at_call 8; refine (HB.out _).mono ?_; rintro e w' ⟨rfl, rfl⟩)
    | (go_at_call 9; refine (HV.out _).mono ?_; rintro e w6 ⟨rfl, hb6⟩; have q0 : w6.cell? ⟨w.heap.size + 1, 0, none⟩ = some (.int .i64 c1) := (by rw [hb6.cell (by simp <;> omega)]; go_simp); have q1 : w6.cell? ⟨w.heap.size + 1, 1, none⟩ = some (.int .i64 k1) := (by rw [hb6.cell (by simp <;> omega)]; go_simp); have q2 : w6.cell? ⟨w.heap.size + 1, 2, none⟩ = some (.int .u32 x) := (by rw [hb6.cell (by simp <;> omega)]; go_simp); have q3 : w6.cell? ⟨w.heap.size + 1 + 1 + 1, 0, none⟩ = some (.int .i64 c2) := (by rw [hb6.cell (by simp <;> omega)]; go_simp); have HB6 := Lib.hid (Below.trans (show Below w.heap.size w _ from (by repeat (first | exact Below.refl _ _ | refine Below.drew ?_ | refine Below.alloc ?_ (by simp <;> omega) _))) (hb6.mono (by simp <;> omega))); clear hb6)
    | (go_at_call 12; refine (lives12_any _).mono ?_; rintro e w9 ⟨rfl, hb9⟩; have HB9 := Lib.hid (Below.trans HB6.out (hb9.mono HB6.out.size)); clear hb9))
  all_goals go_ret
  all_goals exact ⟨rfl, HB9.out⟩
theorem rises_any (v u : Int) (w : World) : Calls Try.prog 6 #[.int .i64 v, .int .i64 u] w fun e w' => e = .returned (.bool true) ∧ Below w.heap.size w w' := by
  by_cases h : ¬ (0 ≤ v ∧ v < 32768) ∨ ¬ (0 ≤ u ∧ u < 32768) ∨ u < v
  · exact rises_out v u w h
  · obtain ⟨m, rfl⟩ := Int.eq_ofNat_of_zero_le (show 0 ≤ v by omega)
    obtain ⟨n, rfl⟩ := Int.eq_ofNat_of_zero_le (show 0 ≤ u by omega)
    exact rises_in m n w (by omega) (by omega)
end Go.Proofs.Ytgokhpljmoojnaa
