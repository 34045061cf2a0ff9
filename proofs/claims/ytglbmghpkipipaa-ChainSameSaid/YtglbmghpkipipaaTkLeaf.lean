/- Layer 11: levels, sizes, one token. -/
import Derived.Test.YtglbmghpkipipaaTkPl
import Derived.Test.YtglbmghpkipipaaMbFind
namespace Go.Proofs.Ytglbmghpkipipaa
open Go.RowKit

def rightN (lv : Int) : Int := if lv ≤ 0 then 0 else if lv = 1 then 1 else if lv = 2 then 2 else 3
theorem level_cases (lv : Int) : lv ≤ 0 ∨ lv = 1 ∨ lv = 2 ∨ 3 ≤ lv := by omega
set_option maxHeartbeats 400000 in
theorem right_any (lv : Int) (w : World) : Calls Try.prog 24 #[.int .i64 lv] w fun e w' => e = .returned (.int .i64 (rightN lv)) ∧ w = w' := by
  rcases level_cases lv with h | rfl | rfl | h
  · have HZ : Hid (rightN lv = 0) := if_pos h
    have hm : (if (0 : Int) < lv then lv else 0) = 0 := if_neg (by omega)
    have hm2 : (if lv < (0 : Int) then 0 else lv) = 0 := by split <;> omega
    have hm3 : max lv 0 = 0 := by omega
    clear h
    go_enter Try.func24, Try.ntmps24
    go_wp2
    go_ret
    exact ⟨by rw [HZ.out]; rfl, rfl⟩
  · go_enter Try.func24, Try.ntmps24
    go_wp2
    go_ret
    exact ⟨rfl, rfl⟩
  · go_enter Try.func24, Try.ntmps24
    go_wp2
    go_ret
    exact ⟨rfl, rfl⟩
  · have HZ : Hid (rightN lv = 3) := by show _ = _; unfold rightN; rw [if_neg (by omega), if_neg (by omega), if_neg (by omega)]
    have hm : (if (0 : Int) < lv then lv else 0) = lv := if_pos (by omega)
    have hm2 : (if lv < (0 : Int) then 0 else lv) = lv := if_neg (by omega)
    have hn : (if lv < (3 : Int) then lv else 3) = 3 := if_neg (by omega)
    have hn2 : (if (3 : Int) < lv then 3 else lv) = 3 := by split <;> omega
    go_enter Try.func24, Try.ntmps24
    go_wp2
    go_ret
    exact ⟨by rw [HZ.out]; rfl, rfl⟩
set_option maxHeartbeats 400000 in
theorem depth_any (lv : Int) (w : World) : Calls Try.prog 12 #[.int .i64 lv] w fun e w' => e = .returned (.int .i64 (depthN lv)) ∧ w = w' := by
  have i0 : ∀ w, (Instr.index 55 (.agg #[.int .i64 1, .int .i64 4, .int .i64 32, .int .i64 256]) (.int .i64 0)).run Try.prog w = .ok (.int .i64 1) w := fun _ => by kernel_rfl
  have i1 : ∀ w, (Instr.index 55 (.agg #[.int .i64 1, .int .i64 4, .int .i64 32, .int .i64 256]) (.int .i64 1)).run Try.prog w = .ok (.int .i64 4) w := fun _ => by kernel_rfl
  have i2 : ∀ w, (Instr.index 55 (.agg #[.int .i64 1, .int .i64 4, .int .i64 32, .int .i64 256]) (.int .i64 2)).run Try.prog w = .ok (.int .i64 32) w := fun _ => by kernel_rfl
  have i3 : ∀ w, (Instr.index 55 (.agg #[.int .i64 1, .int .i64 4, .int .i64 32, .int .i64 256]) (.int .i64 3)).run Try.prog w = .ok (.int .i64 256) w := fun _ => by kernel_rfl
  have HR := Lib.hid (right_any lv w)
  rcases level_cases lv with h | rfl | rfl | h
  · have HZ : Hid (depthN lv = 1) := if_pos h
    have hr : rightN lv = 0 := if_pos h
    rw [hr] at HR
    clear hr
    go_enter Try.func12, Try.ntmps12
    go_wp2_with (go_at_call 24; refine HR.out.mono ?_; rintro e w' ⟨rfl, rfl⟩)
    go_ret
    exact ⟨by rw [HZ.out]; rfl, rfl⟩
  · have hr : rightN 1 = 1 := rfl
    rw [hr] at HR
    go_enter Try.func12, Try.ntmps12
    go_wp2_with (go_at_call 24; refine HR.out.mono ?_; rintro e w' ⟨rfl, rfl⟩)
    go_ret
    exact ⟨rfl, rfl⟩
  · have hr : rightN 2 = 2 := rfl
    rw [hr] at HR
    go_enter Try.func12, Try.ntmps12
    go_wp2_with (go_at_call 24; refine HR.out.mono ?_; rintro e w' ⟨rfl, rfl⟩)
    go_ret
    exact ⟨rfl, rfl⟩
  · have HZ : Hid (depthN lv = 256) := by show _ = _; unfold depthN; rw [if_neg (by omega), if_neg (by omega), if_neg (by omega)]
    have hr : rightN lv = 3 := by unfold rightN; rw [if_neg (by omega), if_neg (by omega), if_neg (by omega)]
    rw [hr] at HR
    clear hr h
    go_enter Try.func12, Try.ntmps12
    go_wp2_with (go_at_call 24; refine HR.out.mono ?_; rintro e w' ⟨rfl, rfl⟩)
    go_ret
    exact ⟨by rw [HZ.out]; rfl, rfl⟩
theorem depthN_bd (lv : Int) : 1 ≤ depthN lv ∧ depthN lv ≤ 256 := by
  rcases level_cases lv with h | rfl | rfl | h
  · rw [show depthN lv = 1 from if_pos h]; omega
  · decide
  · decide
  · rw [show depthN lv = 256 by unfold depthN; rw [if_neg (by omega), if_neg (by omega), if_neg (by omega)]]; omega
/-- A token's cells. -/
def tkC (t : Tk) : List Value := [.int .u8 (t.1.toNat : Int), .int .i64 (t.2.1 : Int), .int .i64 (t.2.2 : Int)]
def tkV (t : Tk) : Value := .agg #[.int .u8 (t.1.toNat : Int), .int .i64 (t.2.1 : Int), .int .i64 (t.2.2 : Int)]
set_option maxHeartbeats 400000 in
theorem size_any (t : Tk) (w : World) : Calls Try.prog 29 #[tkV t] w fun e w' => e = .returned (.int .i64 (tsz t : Nat)) ∧ Below w.heap.size w w' := by
  obtain ⟨b, n, d⟩ := t
  have HT : Hid (tsz (b, n, d) = if n < 1 then 1 else n) := by show _ = _; unfold tsz; simp only; split <;> omega
  unfold tkV
  dsimp only
  by_cases h : n < 1
  · have HZ : Hid (tsz (b, n, d) = 1) := by show _ = _; rw [HT.out, if_pos h]
    have hm : (if (n : Int) < 1 then (1 : Int) else (n : Int)) = 1 := if_pos (by omega)
    have hm2 : (if n < 1 then (1 : Int) else (n : Int)) = 1 := if_pos h
    have hm3 : (if (1 : Int) < (n : Int) then (n : Int) else 1) = 1 := if_neg (by omega)
    have hm4 : (if 1 < n then (n : Int) else 1) = 1 := if_neg (by omega)
    clear h
    go_enter Try.func29, Try.ntmps29
    go_wp2
    go_ret
    exact ⟨by rw [HZ.out]; rfl, (Below.refl _ w).alloc (Nat.le_refl _) _⟩
  · have HZ : Hid (tsz (b, n, d) = n) := by show _ = _; rw [HT.out, if_neg h]
    have hm : (if (n : Int) < 1 then (1 : Int) else (n : Int)) = n := if_neg (by omega)
    have hm2 : (if n < 1 then (1 : Int) else (n : Int)) = n := if_neg h
    have hm3 : (if (1 : Int) < (n : Int) then (n : Int) else 1) = n := by split <;> omega
    have hm4 : (if 1 < n then (n : Int) else 1) = n := by split <;> omega
    clear h
    go_enter Try.func29, Try.ntmps29
    go_wp2
    go_ret
    exact ⟨by rw [HZ.out]; rfl, (Below.refl _ w).alloc (Nat.le_refl _) _⟩
set_option maxHeartbeats 1000000 in
theorem longer_any (g g0 : Nat) (A : Option Addr) (l c : Nat) (bs : List UInt8) (a lv : Int) (k : Nat) (w : World) (hl : bs.length = l) (hm : l ≤ 4000) (hb : Bytes w w.heap.size A bs) (hf : LF w g g0 A l c bs) :
    Calls Try.prog 41 #[.pointer (some ⟨g, 0, none⟩), .int .i64 a, .int .i64 lv, .int .i64 (k : Int)] w fun e w' => e = .returned (.bool (decide (k < (bestM bs a (depthN lv)).1))) ∧ Below w.heap.size w w' := by
  have HD := Lib.hid (depth_any lv w)
  have hdb := depthN_bd lv
  have HF := Lib.hid (find_any g g0 A l c bs a (depthN lv) w hl hm hb hf (by omega) (by omega))
  obtain ⟨n, hn⟩ : ∃ n, (bestM bs a (depthN lv)).1 = n := ⟨_, rfl⟩
  obtain ⟨d, hd⟩ : ∃ d, (bestM bs a (depthN lv)).2 = d := ⟨_, rfl⟩
  rw [hn, hd] at HF
  rw [hn]
  clear hn hd hb hf hdb
  go_enter Try.func41, Try.ntmps41
  go_wp2_with (first
    | (go_at_call 12; refine HD.out.mono ?_; rintro e w' ⟨rfl, rfl⟩)
    | (go_at_call 40; refine HF.out.mono ?_; rintro e w5 ⟨rfl, hb5⟩; have HB5 := Lib.hid hb5; clear hb5))
  go_ret
  exact ⟨by simp, HB5.out⟩
set_option maxHeartbeats 1000000 in
theorem token_any (g g0 : Nat) (A : Option Addr) (l c : Nat) (bs : List UInt8) (p : Nat) (lv : Int) (w : World) (hl : bs.length = l) (hm : l ≤ 4000) (hp : p < l) (hb : Bytes w w.heap.size A bs) (hf : LF w g g0 A l c bs) :
    Calls Try.prog 39 #[.pointer (some ⟨g, 0, none⟩), .slice A l c, .int .i64 (p : Int), .int .i64 lv] w fun e w' => e = .returned (tkV (tokAt bs lv p)) ∧ Below w.heap.size w w' := by
  obtain ⟨W1, hW1⟩ : ∃ W1, w.alloc (.cells #[.int .u8 0, .int .i64 0, .int .i64 0] 32) = W1 := ⟨_, rfl⟩
  have HZ1 : Hid (W1.heap.size = w.heap.size + 1) := by show _ = _; rw [← hW1]; simp
  have HB1 : Hid (Below w.heap.size w W1) := by show Below _ _ _; rw [← hW1]; exact (Below.refl _ w).alloc (Nat.le_refl _) _
  have HX1 : Hid (W1.heap[w.heap.size]? = some (.cells #[.int .u8 0, .int .i64 0, .int .i64 0] 32)) := by show _ = _; rw [← hW1]; exact heap_alloc_new w _
  have hg := (Array.getElem?_eq_some_iff.1 hf.1).1
  have hg0 := (Array.getElem?_eq_some_iff.1 hf.2).1
  have HD := Lib.hid (fun W => depth_any lv W)
  have HR := Lib.hid (fun W => right_any lv W)
  have hdb := depthN_bd lv
  have HF := Lib.hid (fun (W : World) (h : Below w.heap.size w W) => find_any g g0 A l c bs (p : Int) (depthN lv) W hl hm ((hb.below h (Nat.le_refl _)).more h.size) (hf.below h hg hg0) (by omega) (by omega))
  have HLO := Lib.hid (fun (W : World) (h : Below w.heap.size w W) (k : Nat) => longer_any g g0 A l c bs ((p + 1 : Nat) : Int) lv k W hl hm ((hb.below h (Nat.le_refl _)).more h.size) (hf.below h hg hg0))
  obtain ⟨n, hn⟩ : ∃ n, (bestM bs (p : Int) (depthN lv)).1 = n := ⟨_, rfl⟩
  obtain ⟨d, hd⟩ : ∃ d, (bestM bs (p : Int) (depthN lv)).2 = d := ⟨_, rfl⟩
  obtain ⟨m, hmm⟩ : ∃ m, (bestM bs ((p + 1 : Nat) : Int) (depthN lv)).1 = m := ⟨_, rfl⟩
  have HT : Hid (tokAt bs lv p = if n = 0 ∨ (1 < lv ∧ n < 258 ∧ n < m) then (bs.getD p 0, 0, 0) else (0, n, d)) := by show _ = _; rw [tokAt, hn, hd, hmm]
  rw [hn, hd] at HF
  rw [hmm] at HLO
  have HRL : Hid (rightN lv ≥ 2 ↔ 1 < lv) := by
    show _ ↔ _
    rcases level_cases lv with h | rfl | rfl | h
    · rw [show rightN lv = 0 from if_pos h]; omega
    · decide
    · decide
    · rw [show rightN lv = 3 by unfold rightN; rw [if_neg (by omega), if_neg (by omega), if_neg (by omega)]]; omega
  obtain ⟨b, o, rfl, hbB, hc⟩ := hb (by rw [byteCells_length]; omega)
  obtain ⟨x, hx⟩ : ∃ x, bs[p]? = some x := ⟨_, List.getElem?_eq_getElem (by omega)⟩
  have HCX : Hid (∀ W, Below w.heap.size w W → W.cell? ⟨b, o + p, none⟩ = some (.int .u8 (x.toNat : Int))) := fun W h => (h.cell (p := ⟨b, o + p, none⟩) hbB).trans (hc _ _ (byteCells_get hx))
  have hgx : bs.getD p 0 = x := by rw [List.getD, hx]; rfl
  rw [hgx] at HT
  obtain ⟨r, hr⟩ : ∃ r, rightN lv = r := ⟨_, rfl⟩
  rw [hr] at HR HRL
  clear hn hd hmm hc hx hgx hf hg hg0 hdb hr
  have HXW : Hid (∀ W, Below W1.heap.size W1 W → W.heap[w.heap.size]? = some (.cells #[.int .u8 0, .int .i64 0, .int .i64 0] 32)) := fun W h => (h.block _ (by have := HZ1.out; omega)).trans HX1.out
  by_cases hz : n = 0
  · subst hz
    have HT2 : Hid (tokAt bs lv p = (x, 0, 0)) := by show _ = _; rw [HT.out, if_pos (.inl rfl)]
    go_enter Try.func39, Try.ntmps39
    go_wp2_with (first
      | (go_at_call 12; refine (HD.out _).mono ?_; rintro e w' ⟨rfl, rfl⟩)
      | (go_at_call 40; refine (HF.out _ HB1.out).mono ?_; rintro e w5 ⟨rfl, hb5⟩; have HB5 := Lib.hid hb5; have hx5 := HXW.out w5 hb5; have y0 := HCX.out w5 (HB1.out.trans (hb5.mono (by have := HZ1.out; omega))); have z0 := cell_of_row w5 w.heap.size 0 _ _ _ hx5; have z1 := cell_of_row w5 w.heap.size 1 _ _ _ hx5; have z2 := cell_of_row w5 w.heap.size 2 _ _ _ hx5; have f0 := frozen_of_row w5 w.heap.size 0 _ _ hx5; have f1 := frozen_of_row w5 w.heap.size 1 _ _ hx5; have f2 := frozen_of_row w5 w.heap.size 2 _ _ hx5; clear hb5 hx5))
    refine bodyPost_ret (v := tkV (x, 0, 0)) (by simp [results, Try.f39, go_sem, z0, z1, z2, tkV]) rfl ⟨by rw [HT2.out], ?_⟩
    exact (((HB1.out.trans (HB5.out.mono (by have := HZ1.out; omega))).setCell (p := ⟨w.heap.size, 0, none⟩) (Nat.le_refl _) _).setCell (p := ⟨w.heap.size, 1, none⟩) (Nat.le_refl _) _).setCell (p := ⟨w.heap.size, 2, none⟩) (Nat.le_refl _) _
  · have tz : ((n : Int) == 0) = false := by simp; omega
    have tz' : (n == 0) = false := by simp; omega
    by_cases hr : 1 < lv
    · have tr : decide ((2 : Int) ≤ r) = true := decide_eq_true (HRL.out.2 hr)
      by_cases h258 : n < 258
      · have t2 : decide ((n : Int) < 258) = true := decide_eq_true (by omega)
        by_cases hnm : n < m
        · have t3 : decide (n < m) = true := decide_eq_true hnm
          have HT2 : Hid (tokAt bs lv p = (x, 0, 0)) := by show _ = _; rw [HT.out, if_pos (.inr ⟨hr, h258, hnm⟩)]
          have HLO := Lib.hid (fun (W : World) (h : Below w.heap.size w W) => HLO.out W h n)
          rw [t3] at HLO
          clear t3 hnm hr hz
          go_enter Try.func39, Try.ntmps39
          go_wp2_with (first
            | (go_at_call 12; refine (HD.out _).mono ?_; rintro e w' ⟨rfl, rfl⟩)
            | (go_at_call 40; refine (HF.out _ HB1.out).mono ?_; rintro e w5 ⟨rfl, hb5⟩; have HB5 := Lib.hid hb5; have hx5 := HXW.out w5 hb5; have y0 := HCX.out w5 (HB1.out.trans (hb5.mono (by have := HZ1.out; omega))); have z0 := cell_of_row w5 w.heap.size 0 _ _ _ hx5; have z1 := cell_of_row w5 w.heap.size 1 _ _ _ hx5; have z2 := cell_of_row w5 w.heap.size 2 _ _ _ hx5; have f0 := frozen_of_row w5 w.heap.size 0 _ _ hx5; have f1 := frozen_of_row w5 w.heap.size 1 _ _ hx5; have f2 := frozen_of_row w5 w.heap.size 2 _ _ hx5; clear hb5 hx5)
            | (go_at_call 24; refine (HR.out _).mono ?_; rintro e w' ⟨rfl, rfl⟩)
            | (go_at_call 41; refine (HLO.out _ (HB1.out.trans (HB5.out.mono (by have := HZ1.out; omega)))).mono ?_; rintro e w6 ⟨rfl, hb6⟩; have HB6 := Lib.hid hb6; have hx6 := HXW.out w6 (HB5.out.trans (hb6.mono HB5.out.size)); have y6 := HCX.out w6 ((HB1.out.trans (HB5.out.mono (by have := HZ1.out; omega))).trans (hb6.mono (HB1.out.trans (HB5.out.mono (by have := HZ1.out; omega))).size)); have u0 := cell_of_row w6 w.heap.size 0 _ _ _ hx6; have u1 := cell_of_row w6 w.heap.size 1 _ _ _ hx6; have u2 := cell_of_row w6 w.heap.size 2 _ _ _ hx6; have v0 := frozen_of_row w6 w.heap.size 0 _ _ hx6; have v1 := frozen_of_row w6 w.heap.size 1 _ _ hx6; have v2 := frozen_of_row w6 w.heap.size 2 _ _ hx6; clear hb6 hx6))
          refine bodyPost_ret (v := tkV (x, 0, 0)) (by simp [results, Try.f39, go_sem, u0, u1, u2, tkV]) rfl ⟨by rw [HT2.out], ?_⟩
          exact ((((HB1.out.trans (HB5.out.mono (by have := HZ1.out; omega))).trans (HB6.out.mono (HB1.out.trans (HB5.out.mono (by have := HZ1.out; omega))).size)).setCell (p := ⟨w.heap.size, 0, none⟩) (Nat.le_refl _) _).setCell (p := ⟨w.heap.size, 1, none⟩) (Nat.le_refl _) _).setCell (p := ⟨w.heap.size, 2, none⟩) (Nat.le_refl _) _
        · have t3 : decide (n < m) = false := decide_eq_false hnm
          have HT2 : Hid (tokAt bs lv p = (0, n, d)) := by show _ = _; rw [HT.out, if_neg (by omega)]
          have HLO := Lib.hid (fun (W : World) (h : Below w.heap.size w W) => HLO.out W h n)
          rw [t3] at HLO
          clear t3 hnm hr hz
          go_enter Try.func39, Try.ntmps39
          go_wp2_with (first
            | (go_at_call 12; refine (HD.out _).mono ?_; rintro e w' ⟨rfl, rfl⟩)
            | (go_at_call 40; refine (HF.out _ HB1.out).mono ?_; rintro e w5 ⟨rfl, hb5⟩; have HB5 := Lib.hid hb5; have hx5 := HXW.out w5 hb5; have y0 := HCX.out w5 (HB1.out.trans (hb5.mono (by have := HZ1.out; omega))); have z0 := cell_of_row w5 w.heap.size 0 _ _ _ hx5; have z1 := cell_of_row w5 w.heap.size 1 _ _ _ hx5; have z2 := cell_of_row w5 w.heap.size 2 _ _ _ hx5; have f0 := frozen_of_row w5 w.heap.size 0 _ _ hx5; have f1 := frozen_of_row w5 w.heap.size 1 _ _ hx5; have f2 := frozen_of_row w5 w.heap.size 2 _ _ hx5; clear hb5 hx5)
            | (go_at_call 24; refine (HR.out _).mono ?_; rintro e w' ⟨rfl, rfl⟩)
            | (go_at_call 41; refine (HLO.out _ (HB1.out.trans (HB5.out.mono (by have := HZ1.out; omega)))).mono ?_; rintro e w6 ⟨rfl, hb6⟩; have HB6 := Lib.hid hb6; have hx6 := HXW.out w6 (HB5.out.trans (hb6.mono HB5.out.size)); have y6 := HCX.out w6 ((HB1.out.trans (HB5.out.mono (by have := HZ1.out; omega))).trans (hb6.mono (HB1.out.trans (HB5.out.mono (by have := HZ1.out; omega))).size)); have u0 := cell_of_row w6 w.heap.size 0 _ _ _ hx6; have u1 := cell_of_row w6 w.heap.size 1 _ _ _ hx6; have u2 := cell_of_row w6 w.heap.size 2 _ _ _ hx6; have v0 := frozen_of_row w6 w.heap.size 0 _ _ hx6; have v1 := frozen_of_row w6 w.heap.size 1 _ _ hx6; have v2 := frozen_of_row w6 w.heap.size 2 _ _ hx6; clear hb6 hx6))
          refine bodyPost_ret (v := tkV (0, n, d)) (by simp [results, Try.f39, go_sem, u0, u1, u2, tkV]) rfl ⟨by rw [HT2.out], ?_⟩
          exact ((((HB1.out.trans (HB5.out.mono (by have := HZ1.out; omega))).trans (HB6.out.mono (HB1.out.trans (HB5.out.mono (by have := HZ1.out; omega))).size)).setCell (p := ⟨w.heap.size, 0, none⟩) (Nat.le_refl _) _).setCell (p := ⟨w.heap.size, 1, none⟩) (Nat.le_refl _) _).setCell (p := ⟨w.heap.size, 2, none⟩) (Nat.le_refl _) _
      · have t2 : decide ((n : Int) < 258) = false := decide_eq_false (by omega)
        have HT2 : Hid (tokAt bs lv p = (0, n, d)) := by show _ = _; rw [HT.out, if_neg (by omega)]
        clear hr hz
        go_enter Try.func39, Try.ntmps39
        go_wp2_with (first
          | (go_at_call 12; refine (HD.out _).mono ?_; rintro e w' ⟨rfl, rfl⟩)
          | (go_at_call 40; refine (HF.out _ HB1.out).mono ?_; rintro e w5 ⟨rfl, hb5⟩; have HB5 := Lib.hid hb5; have hx5 := HXW.out w5 hb5; have y0 := HCX.out w5 (HB1.out.trans (hb5.mono (by have := HZ1.out; omega))); have z0 := cell_of_row w5 w.heap.size 0 _ _ _ hx5; have z1 := cell_of_row w5 w.heap.size 1 _ _ _ hx5; have z2 := cell_of_row w5 w.heap.size 2 _ _ _ hx5; have f0 := frozen_of_row w5 w.heap.size 0 _ _ hx5; have f1 := frozen_of_row w5 w.heap.size 1 _ _ hx5; have f2 := frozen_of_row w5 w.heap.size 2 _ _ hx5; clear hb5 hx5)
          | (go_at_call 24; refine (HR.out _).mono ?_; rintro e w' ⟨rfl, rfl⟩))
        refine bodyPost_ret (v := tkV (0, n, d)) (by simp [results, Try.f39, go_sem, z0, z1, z2, tkV]) rfl ⟨by rw [HT2.out], ?_⟩
        exact (((HB1.out.trans (HB5.out.mono (by have := HZ1.out; omega))).setCell (p := ⟨w.heap.size, 0, none⟩) (Nat.le_refl _) _).setCell (p := ⟨w.heap.size, 1, none⟩) (Nat.le_refl _) _).setCell (p := ⟨w.heap.size, 2, none⟩) (Nat.le_refl _) _
    · have tr : decide ((2 : Int) ≤ r) = false := decide_eq_false (fun h => hr (HRL.out.1 h))
      have HT2 : Hid (tokAt bs lv p = (0, n, d)) := by show _ = _; rw [HT.out, if_neg (by omega)]
      clear hr hz
      go_enter Try.func39, Try.ntmps39
      go_wp2_with (first
        | (go_at_call 12; refine (HD.out _).mono ?_; rintro e w' ⟨rfl, rfl⟩)
        | (go_at_call 40; refine (HF.out _ HB1.out).mono ?_; rintro e w5 ⟨rfl, hb5⟩; have HB5 := Lib.hid hb5; have hx5 := HXW.out w5 hb5; have y0 := HCX.out w5 (HB1.out.trans (hb5.mono (by have := HZ1.out; omega))); have z0 := cell_of_row w5 w.heap.size 0 _ _ _ hx5; have z1 := cell_of_row w5 w.heap.size 1 _ _ _ hx5; have z2 := cell_of_row w5 w.heap.size 2 _ _ _ hx5; have f0 := frozen_of_row w5 w.heap.size 0 _ _ hx5; have f1 := frozen_of_row w5 w.heap.size 1 _ _ hx5; have f2 := frozen_of_row w5 w.heap.size 2 _ _ hx5; clear hb5 hx5)
        | (go_at_call 24; refine (HR.out _).mono ?_; rintro e w' ⟨rfl, rfl⟩))
      refine bodyPost_ret (v := tkV (0, n, d)) (by simp [results, Try.f39, go_sem, z0, z1, z2, tkV]) rfl ⟨by rw [HT2.out], ?_⟩
      exact (((HB1.out.trans (HB5.out.mono (by have := HZ1.out; omega))).setCell (p := ⟨w.heap.size, 0, none⟩) (Nat.le_refl _) _).setCell (p := ⟨w.heap.size, 1, none⟩) (Nat.le_refl _) _).setCell (p := ⟨w.heap.size, 2, none⟩) (Nat.le_refl _) _
end Go.Proofs.Ytglbmghpkipipaa
