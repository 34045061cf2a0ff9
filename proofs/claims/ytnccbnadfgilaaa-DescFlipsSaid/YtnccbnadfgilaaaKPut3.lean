/- A mark, three numbers, and the sum of all these. -/
import Derived.Test.YtnccbnadfgilaaaKSeal
namespace Go.Proofs.Ytnccbnadfgilaaa
open Go.RowKit CrcP FieldP

/-- A mark, three numbers, and the sum. -/
def threeB (s : List UInt8) (a b c : Nat) : List UInt8 := sealed (s ++ putN a 4 ++ putN b 4 ++ putN c 4)

set_option maxRecDepth 100000 in
set_option maxHeartbeats 1000000 in
theorem putThree_any (g : Nat) (s : ByteArray) (a b c : Nat) (w : World) (hs : s.size ≤ 1000) (ha : a < 4294967296) (hb : b < 4294967296) (hc : c < 4294967296) (hT : Table w g) :
    Calls Try.prog 36 #[.pointer (some ⟨g, 0, none⟩), .string s, .agg #[.int .u32 (a : Int), .int .u32 (b : Int), .int .u32 (c : Int)]] w fun e w' =>
      ∃ A k, e = .returned (.slice A (s.size + 16) k) ∧ OwnY w' w.heap.size (.slice A (s.size + 16) k) (s.size + 16) (threeB s.data.toList a b c) ∧ Below w.heap.size w w' := by
  have HT : Hid (Table w g) := hT
  have htl := hT.lt
  clear hT
  have HT1 := Lib.hid (HT.out.alloc (.cells #[.int .u32 (a : Int), .int .u32 (b : Int), .int .u32 (c : Int)] 54))
  have HB1 := Lib.hid (((Below.refl w.heap.size w).alloc (Nat.le_refl _) (.cells #[.int .u32 (a : Int), .int .u32 (b : Int), .int .u32 (c : Int)] 54)))
  obtain ⟨A0, c0, w1, hcv, how, hbw⟩ := run_text (P := Try.prog) (w.alloc (.cells #[.int .u32 (a : Int), .int .u32 (b : Int), .int .u32 (c : Int)] 54)) w.heap.size s Try.underlying9 Try.underlying22 Try.underlying5 (by unfold maxLen; omega) (by simp)
  have h0 : w1.cell? ⟨w.heap.size, 0, none⟩ = some (.int .u32 (a : Int)) := (hbw.cell (p := ⟨w.heap.size, 0, none⟩) (by simp)).trans (by rw [cell_of_row _ _ _ _ _ _ (heap_alloc_new w _)]; rfl)
  have h1 : w1.cell? ⟨w.heap.size, 1, none⟩ = some (.int .u32 (b : Int)) := (hbw.cell (p := ⟨w.heap.size, 1, none⟩) (by simp)).trans (by rw [cell_of_row _ _ _ _ _ _ (heap_alloc_new w _)]; rfl)
  have h2 : w1.cell? ⟨w.heap.size, 2, none⟩ = some (.int .u32 (c : Int)) := (hbw.cell (p := ⟨w.heap.size, 2, none⟩) (by simp)).trans (by rw [cell_of_row _ _ _ _ _ _ (heap_alloc_new w _)]; rfl)
  have HOW := Lib.hid how
  have HT2 := Lib.hid (HT1.out.below hbw (by simp; omega))
  have HB2 := Lib.hid (HB1.out.trans (hbw.mono (by simp)))
  clear how hbw HT1 HB1
  go_enter Try.func36, Try.ntmps36
  go_wp2
  clear hcv h0 h1 h2
  go_loopw [7, 13] (fun vb i wr => ∃ k : Nat, k ≤ 3 ∧ i = .int .i64 k ∧ OwnY wr w.heap.size vb (s.size + 4 * k) (s.data.toList ++ flat 4 ([a, b, c].take k)) ∧ Below w.heap.size w wr) (fun _ i _ => 3 - (intOf i).toNat)
  case atStart => exact ⟨0, by omega, rfl, by simpa [flat] using HOW.out, HB2.out⟩
  case round =>
    obtain ⟨k, hk, rfl, hown, hbel⟩ := hrel
    have HOWN := Lib.hid hown
    have HBEL := Lib.hid hbel
    clear hown hbel
    obtain ⟨Ak, ck, rfl⟩ := HOWN.out.form
    have step : ∀ (x : Nat), x < 4294967296 → flat 4 ([a, b, c].take (k + 1)) = flat 4 ([a, b, c].take k) ++ putN x 4 → Calls Try.prog 48 #[.slice Ak (s.size + 4 * k) ck, .int .u32 (x : Int), .int .i64 4] wr fun e w' => ∃ A c', e = .returned (.slice A (s.size + 4 * (k + 1)) c') ∧ OwnY w' w.heap.size (.slice A (s.size + 4 * (k + 1)) c') (s.size + 4 * (k + 1)) (s.data.toList ++ flat 4 ([a, b, c].take (k + 1))) ∧ Below w.heap.size w w' := by
      intro x hx hf
      refine (put_any (.slice Ak (s.size + 4 * k) ck) (s.size + 4 * k) _ (x : Int) 4 w.heap.size wr (by omega) (by omega) (by omega) (by omega) (by omega) HOWN.out HBEL.out.size).mono ?_
      rintro e w' ⟨A, c', rfl, happ⟩
      refine ⟨A, c', rfl, ?_, happ.below HBEL.out HBEL.out.size (fun k hk => (HOWN.out.lt k hk).1)⟩
      have := happ.own
      rw [Int.toNat_natCast, cnt4, List.append_assoc, ← hf] at this
      exact this
    have HST := Lib.hid step
    clear step
    by_cases hk3 : k < 3
    · have hk4 : k = 0 ∨ k = 1 ∨ k = 2 := by omega
      rcases hk4 with rfl | rfl | rfl
      · have hix : ∀ w, (Instr.index 54 (.agg #[.int .u32 (a : Int), .int .u32 (b : Int), .int .u32 (c : Int)]) (.int .i64 0)).run Try.prog w = .ok (.int .u32 (a : Int)) w := fun _ => by kernel_rfl
        go_wp2_with (refine (HST.out a ha rfl).mono ?_; rintro e w2 ⟨A2, c2, rfl, hown, hbel⟩; have HO2 := Lib.hid hown; have HB2' := Lib.hid hbel; clear hown hbel)
        exact ⟨⟨1, by omega, rfl, HO2.out, HB2'.out⟩, by simp [intOf]⟩
      · have hix : ∀ w, (Instr.index 54 (.agg #[.int .u32 (a : Int), .int .u32 (b : Int), .int .u32 (c : Int)]) (.int .i64 1)).run Try.prog w = .ok (.int .u32 (b : Int)) w := fun _ => by kernel_rfl
        go_wp2_with (refine (HST.out b hb rfl).mono ?_; rintro e w2 ⟨A2, c2, rfl, hown, hbel⟩; have HO2 := Lib.hid hown; have HB2' := Lib.hid hbel; clear hown hbel)
        exact ⟨⟨2, by omega, rfl, HO2.out, HB2'.out⟩, by simp [intOf]⟩
      · have hix : ∀ w, (Instr.index 54 (.agg #[.int .u32 (a : Int), .int .u32 (b : Int), .int .u32 (c : Int)]) (.int .i64 2)).run Try.prog w = .ok (.int .u32 (c : Int)) w := fun _ => by kernel_rfl
        go_wp2_with (refine (HST.out c hc rfl).mono ?_; rintro e w2 ⟨A2, c2, rfl, hown, hbel⟩; have HO2 := Lib.hid hown; have HB2' := Lib.hid hbel; clear hown hbel)
        exact ⟨⟨3, by omega, rfl, HO2.out, HB2'.out⟩, by simp [intOf]⟩
    · obtain rfl : k = 3 := by omega
      clear HST
      have HF : Hid (s.data.toList ++ flat 4 ([a, b, c].take 3) = s.data.toList ++ putN a 4 ++ putN b 4 ++ putN c 4) := by show _ = _; simp [flat]
      have HCL := Lib.hid (close_any g (.slice Ak (s.size + 4 * 3) ck) (s.size + 4 * 3) _ w.heap.size wr (by omega) HOWN.out HBEL.out.size (HT.out.below HBEL.out htl))
      go_wp2_with (refine HCL.out.mono ?_; rintro e w2 ⟨A2, c2, rfl, happ⟩; have HA := Lib.hid happ; clear happ)
      go_ret
      refine ⟨A2, c2, rfl, ?_, HA.out.below HBEL.out HBEL.out.size (fun k hk => (HOWN.out.lt k hk).1)⟩
      have := HA.out.own
      rw [HF.out] at this
      exact this
end Go.Proofs.Ytnccbnadfgilaaa
