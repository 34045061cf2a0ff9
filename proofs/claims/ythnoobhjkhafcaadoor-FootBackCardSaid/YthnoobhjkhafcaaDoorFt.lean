/- Layer 20: feet: whether one may be, its bytes; the reference's. -/
import Derived.Test.YthnoobhjkhafcaaDoorKSum
import Derived.Test.YthnoobhjkhafcaaDoorKPut3
namespace Go.Proofs.YthnoobhjkhafcaaDoor
open Go.RowKit CrcP FieldP

/-- May a foot be? -/
def ftB (c l : Int) : Bool := decide (0 ≤ c) && decide (c ≤ 200) && decide (0 ≤ l) && decide (l ≤ 16400)
theorem ftB_yes {c l : Int} (h : ftB c l = true) : 0 ≤ c ∧ c ≤ 200 ∧ 0 ≤ l ∧ l ≤ 16400 := by
  simp only [ftB, Bool.and_eq_true, decide_eq_true_eq] at h
  omega

theorem ftB_ways (c l : Int) : (ftB c l = false ∧ c < 0) ∨ (ftB c l = false ∧ 0 ≤ c ∧ 200 < c) ∨ (ftB c l = false ∧ 0 ≤ c ∧ c ≤ 200 ∧ l < 0) ∨ (ftB c l = false ∧ 0 ≤ c ∧ c ≤ 200 ∧ 0 ≤ l ∧ 16400 < l) ∨ (ftB c l = true ∧ 0 ≤ c ∧ c ≤ 200 ∧ 0 ≤ l ∧ l ≤ 16400) := by
  simp only [ftB, Bool.and_eq_false_iff, Bool.and_eq_true, decide_eq_true_eq, decide_eq_false_iff_not]
  omega

set_option maxHeartbeats 1000000 in
theorem ftRight_any (c l s : Int) (w : World) : Calls Tryd.prog 48 #[.agg #[.int .i64 c, .int .i64 l, .int .u32 s]] w fun e w' => e = .returned (.bool (ftB c l)) ∧ w.alloc (.cells #[.int .i64 c, .int .i64 l, .int .u32 s] 61) = w' := by
  rcases ftB_ways c l with ⟨h, h1⟩ | ⟨h, h1, h2⟩ | ⟨h, h1, h2, h3⟩ | ⟨h, h1, h2, h3, h4⟩ | ⟨h, h1, h2, h3, h4⟩
  all_goals
    rw [h]
    clear h
    go_enter Tryd.func48, Tryd.ntmps48
    go_wp2
    go_ret
    refine ⟨?_, rfl⟩
    first
      | rfl
      | (show Ending.returned (.bool (decide _)) = _; congr 2; simp; omega)
/-- "FOOT". -/
def footMark : ByteArray := ⟨#[70, 79, 79, 84]⟩
def footBytes : List UInt8 := [70, 79, 79, 84]
/-- The bytes of a foot. -/
def footB (c l s : Int) : List UInt8 := threeB footBytes c.toNat l.toNat s.toNat

set_option maxHeartbeats 1000000 in
theorem ftPut_no (g : Nat) (c l s : Int) (w : World) (h : ftB c l = false) : Calls Tryd.prog 35 #[.pointer (some ⟨g, 0, none⟩), .agg #[.int .i64 c, .int .i64 l, .int .u32 s]] w fun e w' => e = .returned (.tuple #[.slice none 0 0, .int .i64 1]) ∧ Below w.heap.size w w' := by
  have HR := Lib.hid (fun W => ftRight_any c l s W)
  rw [h] at HR
  clear h
  go_enter Tryd.func35, Tryd.ntmps35
  go_wp2_with (go_at_call 48; refine (HR.out _).mono ?_; rintro e w' ⟨rfl, rfl⟩)
  go_ret2
  exact ⟨rfl, ((Below.refl _ _).alloc (Nat.le_refl _) _).alloc (by simp) _⟩
set_option maxHeartbeats 1000000 in
theorem ftPut_yes (g : Nat) (c l s : Int) (w : World) (h : ftB c l = true) (s0 : 0 ≤ s) (s1 : s < 4294967296) (hT : Table w g) : Calls Tryd.prog 35 #[.pointer (some ⟨g, 0, none⟩), .agg #[.int .i64 c, .int .i64 l, .int .u32 s]] w fun e w' =>
    ∃ A k, e = .returned (.tuple #[.slice A 20 k, .int .i64 0]) ∧ OwnY w' w.heap.size (.slice A 20 k) 20 (footB c l s) ∧ Below w.heap.size w w' := by
  obtain ⟨hc0, hc1, hl0, hl1⟩ := ftB_yes h
  have HR := Lib.hid (fun W => ftRight_any c l s W)
  rw [h] at HR
  obtain ⟨c, rfl⟩ := Int.eq_ofNat_of_zero_le hc0
  obtain ⟨l, rfl⟩ := Int.eq_ofNat_of_zero_le hl0
  obtain ⟨s, rfl⟩ := Int.eq_ofNat_of_zero_le s0
  have HT := Lib.hid ((hT.alloc (.cells #[.int .i64 (c : Int), .int .i64 (l : Int), .int .u32 (s : Int)] 61)).alloc (.cells #[.int .i64 (c : Int), .int .i64 (l : Int), .int .u32 (s : Int)] 61))
  have HB := Lib.hid (((Below.refl w.heap.size w).alloc (Nat.le_refl _) (.cells #[.int .i64 (c : Int), .int .i64 (l : Int), .int .u32 (s : Int)] 61)).alloc (by simp) (.cells #[.int .i64 (c : Int), .int .i64 (l : Int), .int .u32 (s : Int)] 61))
  clear h hT
  go_enter Tryd.func35, Tryd.ntmps35
  go_wp2_with (first | (go_at_call 48; refine (HR.out _).mono ?_; rintro e w' ⟨rfl, rfl⟩) | (go_at_call 49; refine (putThree_any g footMark c l s _ (by decide) (by omega) (by omega) (by omega) HT.out).mono ?_; rintro e w2 ⟨A2, c2, rfl, hown, hbel⟩; have HO2 := Lib.hid hown; have HB2 := Lib.hid hbel; clear hown hbel))
  go_ret2
  exact ⟨A2, c2, rfl, HO2.out.le (by simp; omega), HB.out.trans (HB2.out.mono (by simp; omega))⟩

end Go.Proofs.YthnoobhjkhafcaaDoor
