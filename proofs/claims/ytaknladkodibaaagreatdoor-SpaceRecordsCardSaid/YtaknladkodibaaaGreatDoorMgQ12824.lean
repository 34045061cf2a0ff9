/- The reference's bytes and their sum. -/
import Derived.Test.YtaknladkodibaaaGreatDoorMgQ12817
import Derived.Test.YtaknladkodibaaaGreatDoorMgQ12818
import Derived.Lib.SmallJoins
namespace Go.Proofs.YtaknladkodibaaaGreatDoor
open Go.RowKit CrcP FieldP

end Go.Proofs.YtaknladkodibaaaGreatDoor
/- Layer 18: descriptors: whether one may be, its bytes; the reference's. -/
namespace Go.Proofs.YtaknladkodibaaaGreatDoor
open Go.RowKit CrcP FieldP

/-- May a foot be? -/
def dcB (c l : Int) : Bool := decide (0 ≤ c) && decide (c ≤ 65536) && decide (2 ≤ l) && decide (l ≤ 262144)
theorem dcB_yes {c l : Int} (h : dcB c l = true) : 0 ≤ c ∧ c ≤ 65536 ∧ 2 ≤ l ∧ l ≤ 262144 := by
  simp only [dcB, Bool.and_eq_true, decide_eq_true_eq] at h
  omega

theorem dcB_ways (c l : Int) : (dcB c l = false ∧ c < 0) ∨ (dcB c l = false ∧ 0 ≤ c ∧ 65536 < c) ∨ (dcB c l = false ∧ 0 ≤ c ∧ c ≤ 65536 ∧ l < 2) ∨ (dcB c l = false ∧ 0 ≤ c ∧ c ≤ 65536 ∧ 2 ≤ l ∧ 262144 < l) ∨ (dcB c l = true ∧ 0 ≤ c ∧ c ≤ 65536 ∧ 2 ≤ l ∧ l ≤ 262144) := by
  simp only [dcB, Bool.and_eq_false_iff, Bool.and_eq_true, decide_eq_true_eq, decide_eq_false_iff_not]
  omega

set_option maxHeartbeats 1000000 in
theorem dcRight_any (c l s : Int) (w : World) : Calls Tryz.prog 81 #[.agg #[.int .i64 c, .int .i64 l, .int .u32 s]] w fun e w' => e = .returned (.bool (dcB c l)) ∧ w.alloc (.cells #[.int .i64 c, .int .i64 l, .int .u32 s] 78) = w' := by
  rcases dcB_ways c l with ⟨h, h1⟩ | ⟨h, h1, h2⟩ | ⟨h, h1, h2, h3⟩ | ⟨h, h1, h2, h3, h4⟩ | ⟨h, h1, h2, h3, h4⟩
  all_goals
    rw [h]
    clear h
    go_enter Tryz.func81, Tryz.ntmps81
    go_wp2
    go_ret
    refine ⟨?_, rfl⟩
    first
      | rfl
      | (show Ending.returned (.bool (decide _)) = _; congr 2; simp; omega)
/-- "DESC". -/
def descMark : ByteArray := ⟨#[68, 69, 83, 67]⟩
def descBytes : List UInt8 := [68, 69, 83, 67]
/-- The bytes of a foot. -/
def descB (c l s : Int) : List UInt8 := threeB descBytes c.toNat l.toNat s.toNat

set_option maxHeartbeats 1000000 in
theorem dcPut_yes (g : Nat) (c l s : Int) (w : World) (h : dcB c l = true) (s0 : 0 ≤ s) (s1 : s < 4294967296) (hT : Table w g) : Calls Tryz.prog 40 #[.pointer (some ⟨g, 0, none⟩), .agg #[.int .i64 c, .int .i64 l, .int .u32 s]] w fun e w' =>
    ∃ A k, e = .returned (.tuple #[.slice A 20 k, .int .i64 0]) ∧ OwnY w' w.heap.size (.slice A 20 k) 20 (descB c l s) ∧ Below w.heap.size w w' := by
  obtain ⟨hc0, hc1, hl0, hl1⟩ := dcB_yes h
  have HR := Lib.hid (fun W => dcRight_any c l s W)
  rw [h] at HR
  obtain ⟨c, rfl⟩ := Int.eq_ofNat_of_zero_le hc0
  obtain ⟨l, rfl⟩ := Int.eq_ofNat_of_zero_le (show 0 ≤ l by omega)
  obtain ⟨s, rfl⟩ := Int.eq_ofNat_of_zero_le s0
  have HT := Lib.hid ((hT.alloc (.cells #[.int .i64 (c : Int), .int .i64 (l : Int), .int .u32 (s : Int)] 78)).alloc (.cells #[.int .i64 (c : Int), .int .i64 (l : Int), .int .u32 (s : Int)] 78))
  have HB := Lib.hid (((Below.refl w.heap.size w).alloc (Nat.le_refl _) (.cells #[.int .i64 (c : Int), .int .i64 (l : Int), .int .u32 (s : Int)] 78)).alloc (by simp) (.cells #[.int .i64 (c : Int), .int .i64 (l : Int), .int .u32 (s : Int)] 78))
  clear h hT
  go_enter Tryz.func40, Tryz.ntmps40
  go_wp2_with (first | (go_at_call 81; refine (HR.out _).mono ?_; rintro e w' ⟨rfl, rfl⟩) | (go_at_call 82; refine (putThree_any g descMark c l s _ (by decide) (by omega) (by omega) (by omega) HT.out).mono ?_; rintro e w2 ⟨A2, c2, rfl, hown, hbel⟩; have HO2 := Lib.hid hown; have HB2 := Lib.hid hbel; clear hown hbel))
  go_ret2
  exact ⟨A2, c2, rfl, HO2.out.le (by simp; omega), HB.out.trans (HB2.out.mono (by simp; omega))⟩

end Go.Proofs.YtaknladkodibaaaGreatDoor
/- Layer 18: a descriptor is taken. -/
namespace Go.Proofs.YtaknladkodibaaaGreatDoor
open Go.RowKit CrcP FieldP
attribute [local go_sem ↓] Go.wp_at_zero Go.wp_at_succ

end Go.Proofs.YtaknladkodibaaaGreatDoor
/- Layer 18: the reference's Take of a descriptor. -/
namespace Go.Proofs.YtaknladkodibaaaGreatDoor
open Go.RowKit CrcP FieldP
attribute [local go_sem ↓] Go.wp_at_zero Go.wp_at_succ

end Go.Proofs.YtaknladkodibaaaGreatDoor
/- Layer 18: the reference's Take of a descriptor: whose sum is right. -/
namespace Go.Proofs.YtaknladkodibaaaGreatDoor
open Go.RowKit CrcP FieldP
attribute [local go_sem ↓] Go.wp_at_zero Go.wp_at_succ

end Go.Proofs.YtaknladkodibaaaGreatDoor
/- Layer 18: the reference's Put. -/
namespace Go.Proofs.YtaknladkodibaaaGreatDoor
open Go.RowKit CrcP FieldP

end Go.Proofs.YtaknladkodibaaaGreatDoor
