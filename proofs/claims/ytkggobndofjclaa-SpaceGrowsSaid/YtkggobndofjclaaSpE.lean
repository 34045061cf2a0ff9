/- Layer 26: Vacuum within the acts; any act. -/
import Derived.Test.YtkggobndofjclaaSpD
namespace Go.Proofs.Ytkggobndofjclaa
open Go.RowKit
attribute [local go_sem ↓] Go.wp_at_zero Go.wp_at_succ

set_option maxHeartbeats 2000000 in
theorem does_4 (g x : Nat) (a : LAct) (y : Nat) (B : Nat) (w : World) (hL : Led w g x) (hB : B ≤ g) (hI : a.In w B) (hN : NarrowF a.fs) (h0 : ¬ a.kind = 0) (h1 : ¬ a.kind = 1) (h2 : ¬ a.kind = 2) (h3 : ¬ a.kind = 3) :
    Calls Try.prog 10 #[.pointer (some ⟨g, 0, none⟩), .agg #[.int .i64 a.kind, .string a.s, .int .i64 a.n, .slice a.A a.len a.cap], .int .i64 (y : Int)] w fun e w' => e = .returned (.int .i64 (stepC y a : Nat)) ∧ Led w' g (stepC x a) ∧ Mod (oneB g) w w' := by
  rw [stepC_4 h0 h1 h2 h3, stepC_4 h0 h1 h2 h3]
  have hr := recsC_le hN
  obtain ⟨hl, hc⟩ := hI
  have hNl := hN.1
  obtain ⟨kind, s, n, A, len, cap, fs⟩ := a
  have hl : fs.length = len := hl
  have hNl : fs.length ≤ 250 := hNl
  have hr : recsC fs ≤ 16500000 := hr
  have t0 : (kind == 0) = false := by simpa using h0
  have t1 : (kind == 1) = false := by simpa using h1
  have t2 : (kind == 2) = false := by simpa using h2
  have t3 : (kind == 3) = false := by simpa using h3
  have hg := hL.lt
  have HC : Hid (Cells w B A (fs.map LF.cells).flatten) := hc
  have HFL := Lib.hid (files_len fs)
  have HSM := Lib.hid (recsC_take_le fs)
  have HL1 := Lib.hid (hL.alloc (.cells #[.int .i64 kind, .string s, .int .i64 n, .slice A len cap] 32))
  have HX1 : Hid (Box (w.alloc (.cells #[.int .i64 kind, .string s, .int .i64 n, .slice A len cap] 32)) w.heap.size #[.int .i64 kind, .string s, .int .i64 n, .slice A len cap] 32) := heap_alloc_new w _
  have HM1 := Lib.hid ((Mod.refl (oneB g) w).alloc (.cells #[.int .i64 kind, .string s, .int .i64 n, .slice A len cap] 32))
  have HC1 := Lib.hid (HC.out.alloc (by omega) (.cells #[.int .i64 kind, .string s, .int .i64 n, .slice A len cap] 32))
  have HV := Lib.hid (vacuum_any g x A len cap fs B _ HL1.out hl (by omega) (by omega) HC1.out hB)
  have hne : w.heap.size ≠ g := by omega
  show Calls Try.prog 10 #[.pointer (some ⟨g, 0, none⟩), .agg #[.int .i64 kind, .string s, .int .i64 n, .slice A len cap], .int .i64 (y : Int)] w _
  clear hL hc h0 h1 h2 h3 hN
  go_enter Try.func10, Try.ntmps10
  go_wp2_with (first
    | (go_at_call 23; refine HV.out.mono ?_; rintro e w2 ⟨rfl, h1, h2⟩; have HL2 := Lib.hid h1; have HM2 := Lib.hid (HM1.out.then_ h2); have HX2 := Lib.hid (Box.mod HX1.out h2 hne); clear h1 h2; have x3 : w2.cell? ⟨w.heap.size, 3, none⟩ = some (.slice A len cap) := HX2.out.cell 3))
  have HCW := Lib.hid (fun (j : Nat) (f : LF) (h : fs[j]? = some f) => files_at h)
  have HBW : Hid (Below B w w2) := HM2.out.below (Below.refl _ _) (by omega) (fun k hk => by rw [show k = g from hk]; exact hB)
  go_loopg [7, 8] len (fun gk v i wr => ∃ k nd : Nat, k + gk = len ∧ i = .int .i64 k ∧ v = .int .i64 (recsC (fs.take k) : Nat) ∧ wr = w2.drewN nd)
  case atStart => exact ⟨0, 0, by omega, rfl, rfl, rfl⟩
  case round =>
    obtain ⟨k, nd, hk, rfl, rfl, rfl⟩ := hrel
    have x3 : (w2.drewN nd).cell? ⟨w.heap.size, 3, none⟩ = some (.slice A len cap) := HX2.out.cell 3
    by_cases h : k < len
    · obtain ⟨f, hx⟩ : ∃ x, fs[k]? = some x := ⟨_, List.getElem?_eq_getElem (by omega)⟩
      obtain ⟨b, o, rfl, hbB, hc⟩ := HC.out (by rw [HFL.out]; omega)
      have HF := Lib.hid (files_at hx)
      have c0 : (w2.drewN nd).cell? ⟨b, o + k * 2, none⟩ = some (.string f.s) := (HBW.out.cell (show b < B by omega)).trans (hc _ _ HF.out.1)
      have c1 : (w2.drewN nd).cell? ⟨b, o + k * 2 + 1, none⟩ = some (.slice f.A f.len f.cap) := (HBW.out.cell (show b < B by omega)).trans (by rw [Nat.add_assoc]; exact hc _ _ HF.out.2)
      have x3' : (w2.drewN (nd + 1)).cell? ⟨w.heap.size, 3, none⟩ = some (.slice (some ⟨b, o, none⟩) len cap) := HX2.out.cell 3
      have c0' : (w2.drewN (nd + 1)).cell? ⟨b, o + k * 2, none⟩ = some (.string f.s) := c0
      have c1' : (w2.drewN (nd + 1)).cell? ⟨b, o + k * 2 + 1, none⟩ = some (.slice f.A f.len f.cap) := c1
      have HS1 := Lib.hid (recsC_take_succ hx)
      have h1 := HSM.out k
      have h2 := HSM.out (k + 1)
      have hcc := cutC_le (f.len : Int)
      rw [HS1.out] at h2
      have HRP := Lib.hid (fun W => rput26_any f.s (f.len : Int) W (by omega))
      clear hc hx
      go_wp2
      go_region_with (first | (go_at_call 24; refine (HRP.out _).mono ?_; rintro e w' ⟨rfl, rfl⟩))
      all_goals
        go_wp2
        go_roundg (gk - 1)
        case measure => omega
        case rel => exact ⟨k + 1, nd + 1, by omega, by go_num, by rw [HS1.out]; go_num, rfl⟩
    · obtain rfl : k = len := by omega
      have HK : Hid (recsC (fs.take k) = recsC fs) := by show _ = _; rw [List.take_of_length_le (by omega)]
      go_wp2
      go_ret
      exact ⟨by rw [← HK.out]; rfl, HL2.out.drewN _, HM2.out.drewN _⟩
end Go.Proofs.Ytkggobndofjclaa
