/- Layer 10: Find of a finder. -/
import Derived.Test.YtaknladkodibaaaGreatMgQ21532
import Derived.Test.YtaknladkodibaaaGreatMgQ21505
import Derived.Test.YtaknladkodibaaaGreatMgQ215SKpB
import Derived.Maps.AppendAt
namespace Go.Proofs.YtaknladkodibaaaGreat
open Go.RowKit Go.Shelf

theorem fbest_any (g g0 : Nat) (A : Option Addr) (l c : Nat) (bs : List UInt8) (a depth : Int) (W W2 : World) (hW2 : (W.alloc (.cells #[.pointer (some ⟨g, 0, none⟩)] 93)).alloc (.cells #[.int .i64 a] 3) = W2)
    (hl : bs.length = l) (hm : l ≤ 32000) (hb : Bytes W W.heap.size A bs) (hf : LF W g g0 A l c bs) (hdp : depth ≤ 9223372036854775807) (hdn : -9223372036854775808 ≤ depth) :
    Calls Tryz.prog 81 #[.slice A l c, .int .i64 a, .int .i64 depth, .func (.func 90) #[] #[.pointer (some ⟨W.heap.size, 0, none⟩), .pointer (some ⟨W.heap.size + 1, 0, none⟩)]] W2
      fun e w' => e = .returned (.tuple #[.int .i64 ((bestM bs a depth).1 : Nat), .int .i64 ((bestM bs a depth).2 : Nat)]) ∧ Below W.heap.size W w' := by
  have hz : W2.heap.size = W.heap.size + 2 := by rw [← hW2]; simp
  have hB1 : Below W.heap.size W W2 := by rw [← hW2]; exact ((Below.refl _ W).alloc (Nat.le_refl _) _).alloc (by simp) _
  have h1 : W2.heap[W.heap.size]? = some (.cells #[.pointer (some ⟨g, 0, none⟩)] 93) := by rw [← hW2]; exact alloc_keep (heap_alloc_new W _) _
  have h2 : W2.heap[W.heap.size + 1]? = some (.cells #[.int .i64 a] 3) := by
    rw [← hW2]
    have h := heap_alloc_new (W.alloc (.cells #[.pointer (some ⟨g, 0, none⟩)] 93)) (.cells #[.int .i64 a] 3)
    rwa [World.size_alloc] at h
  have hg := (Array.getElem?_eq_some_iff.1 hf.1).1
  have hg0 := (Array.getElem?_eq_some_iff.1 hf.2).1
  refine (best_in 90 #[.pointer (some ⟨W.heap.size, 0, none⟩), .pointer (some ⟨W.heap.size + 1, 0, none⟩)] A l c bs a depth W2 hl (by omega) ((hb.below hB1 (Nat.le_refl _)).more (by omega)) hdp hdn
    (enters_of Tryz.func90 (by kernel_rfl) rfl)
    (fun N Z hN hBZ hz2 => fcand_seq (S3 N) W2.heap.size W.heap.size (W.heap.size + 1) g g0 A l c bs a Z hl hm
      (fun k hk => by rcases hk with rfl | rfl | rfl <;> omega) (by omega) (by omega) ((hBZ.block _ (by omega)).trans h1) ((hBZ.block _ (by omega)).trans h2) ((hf.below hB1 hg hg0).below hBZ (by omega) (by omega)))).mono fun e w' h => ⟨h.1, hB1.trans (h.2.mono (by omega))⟩
set_option maxRecDepth 100000 in
set_option maxHeartbeats 2000000 in
theorem find_any (g g0 : Nat) (A : Option Addr) (l c : Nat) (bs : List UInt8) (a depth : Int) (w : World) (hl : bs.length = l) (hm : l ≤ 32000) (hb : Bytes w w.heap.size A bs) (hf : LF w g g0 A l c bs) (hdp : depth ≤ 9223372036854775807) (hdn : -9223372036854775808 ≤ depth) :
    Calls Tryz.prog 64 #[.pointer (some ⟨g, 0, none⟩), .int .i64 a, .int .i64 depth] w
      fun e w' => e = .returned (.tuple #[.int .i64 ((bestM bs a depth).1 : Nat), .int .i64 ((bestM bs a depth).2 : Nat)]) ∧ Below w.heap.size w w' := by
  have c0 := cell_of_row w g 0 _ _ _ hf.1
  obtain ⟨W2, hW2⟩ : ∃ W2, (w.drew.alloc (.cells #[.pointer (some ⟨g, 0, none⟩)] 93)).alloc (.cells #[.int .i64 a] 3) = W2 := ⟨_, rfl⟩
  have HFC : Hid (Calls Tryz.prog 82 #[.pointer (some ⟨g, 0, none⟩), .int .i64 a] w.drew fun e w' => e = .returned (.func (.func 90) #[] #[.pointer (some ⟨w.heap.size, 0, none⟩), .pointer (some ⟨w.heap.size + 1, 0, none⟩)]) ∧ W2 = w') := by
    show Calls _ _ _ _ _
    rw [← hW2]
    exact fcandidates_any (some ⟨g, 0, none⟩) a w.drew
  have HBE := Lib.hid (fbest_any g g0 A l c bs a depth w.drew W2 hW2 hl hm hb hf hdp hdn)
  have c0W : w.drew.cell? ⟨g, 0, none⟩ = some (.slice A l c) := c0
  have c0W2 : W2.cell? ⟨g, 0, none⟩ = some (.slice A l c) := by rw [← hW2]; exact cell_alloc_l _ (cell_alloc_l _ c0W)
  clear hW2 hb hf
  go_enter Tryz.func64, Tryz.ntmps64
  go_wp2_with fail
  go_region_with (first
    | (go_at_call 82; refine HFC.out.mono ?_; rintro e w' ⟨rfl, rfl⟩)
    | (go_at_call 81; refine HBE.out.mono ?_; rintro e w5 ⟨rfl, hb5⟩))
  all_goals
    have HB5 : Hid (Below w.heap.size w w5) := (Below.drewN (Below.refl _ w) 1).trans hb5
    clear hb5
    go_wp2
    go_ret2
    exact ⟨rfl, HB5.out⟩
end Go.Proofs.YtaknladkodibaaaGreat
/- Layer 11: levels, sizes, one token. -/
namespace Go.Proofs.YtaknladkodibaaaGreat
open Go.RowKit

def rightN (lv : Int) : Int := if lv ≤ 0 then 0 else if lv = 1 then 1 else if lv = 2 then 2 else 3
theorem level_cases (lv : Int) : lv ≤ 0 ∨ lv = 1 ∨ lv = 2 ∨ 3 ≤ lv := by omega
set_option maxHeartbeats 400000 in
theorem rightT_any (lv : Int) (w : World) : Calls Tryz.prog 66 #[.int .i64 lv] w fun e w' => e = .returned (.int .i64 (rightN lv)) ∧ w = w' := by
  rcases level_cases lv with h | rfl | rfl | h
  · have HZ : Hid (rightN lv = 0) := if_pos h
    have hm : (if (0 : Int) < lv then lv else 0) = 0 := if_neg (by omega)
    have hm2 : (if lv < (0 : Int) then 0 else lv) = 0 := by split <;> omega
    have hm3 : max lv 0 = 0 := by omega
    clear h
    go_enter Tryz.func66, Tryz.ntmps66
    go_wp2
    go_ret
    exact ⟨by rw [HZ.out]; rfl, rfl⟩
  · go_enter Tryz.func66, Tryz.ntmps66
    go_wp2
    go_ret
    exact ⟨rfl, rfl⟩
  · go_enter Tryz.func66, Tryz.ntmps66
    go_wp2
    go_ret
    exact ⟨rfl, rfl⟩
  · have HZ : Hid (rightN lv = 3) := by show _ = _; unfold rightN; rw [if_neg (by omega), if_neg (by omega), if_neg (by omega)]
    have hm : (if (0 : Int) < lv then lv else 0) = lv := if_pos (by omega)
    have hm2 : (if lv < (0 : Int) then 0 else lv) = lv := if_neg (by omega)
    have hn : (if lv < (3 : Int) then lv else 3) = 3 := if_neg (by omega)
    have hn2 : (if (3 : Int) < lv then 3 else lv) = 3 := by split <;> omega
    go_enter Tryz.func66, Tryz.ntmps66
    go_wp2
    go_ret
    exact ⟨by rw [HZ.out]; rfl, rfl⟩
set_option maxHeartbeats 400000 in
theorem depth_any (lv : Int) (w : World) : Calls Tryz.prog 65 #[.int .i64 lv] w fun e w' => e = .returned (.int .i64 (depthN lv)) ∧ w = w' := by
  have i0 : ∀ w, (Instr.index 145 (.agg #[.int .i64 1, .int .i64 4, .int .i64 32, .int .i64 256]) (.int .i64 0)).run Tryz.prog w = .ok (.int .i64 1) w := fun _ => by kernel_rfl
  have i1 : ∀ w, (Instr.index 145 (.agg #[.int .i64 1, .int .i64 4, .int .i64 32, .int .i64 256]) (.int .i64 1)).run Tryz.prog w = .ok (.int .i64 4) w := fun _ => by kernel_rfl
  have i2 : ∀ w, (Instr.index 145 (.agg #[.int .i64 1, .int .i64 4, .int .i64 32, .int .i64 256]) (.int .i64 2)).run Tryz.prog w = .ok (.int .i64 32) w := fun _ => by kernel_rfl
  have i3 : ∀ w, (Instr.index 145 (.agg #[.int .i64 1, .int .i64 4, .int .i64 32, .int .i64 256]) (.int .i64 3)).run Tryz.prog w = .ok (.int .i64 256) w := fun _ => by kernel_rfl
  have HR := Lib.hid (rightT_any lv w)
  rcases level_cases lv with h | rfl | rfl | h
  · have HZ : Hid (depthN lv = 1) := if_pos h
    have hr : rightN lv = 0 := if_pos h
    rw [hr] at HR
    clear hr
    go_enter Tryz.func65, Tryz.ntmps65
    go_wp2_with (go_at_call 66; refine HR.out.mono ?_; rintro e w' ⟨rfl, rfl⟩)
    go_ret
    exact ⟨by rw [HZ.out]; rfl, rfl⟩
  · have hr : rightN 1 = 1 := rfl
    rw [hr] at HR
    go_enter Tryz.func65, Tryz.ntmps65
    go_wp2_with (go_at_call 66; refine HR.out.mono ?_; rintro e w' ⟨rfl, rfl⟩)
    go_ret
    exact ⟨rfl, rfl⟩
  · have hr : rightN 2 = 2 := rfl
    rw [hr] at HR
    go_enter Tryz.func65, Tryz.ntmps65
    go_wp2_with (go_at_call 66; refine HR.out.mono ?_; rintro e w' ⟨rfl, rfl⟩)
    go_ret
    exact ⟨rfl, rfl⟩
  · have HZ : Hid (depthN lv = 256) := by show _ = _; unfold depthN; rw [if_neg (by omega), if_neg (by omega), if_neg (by omega)]
    have hr : rightN lv = 3 := by unfold rightN; rw [if_neg (by omega), if_neg (by omega), if_neg (by omega)]
    rw [hr] at HR
    clear hr h
    go_enter Tryz.func65, Tryz.ntmps65
    go_wp2_with (go_at_call 66; refine HR.out.mono ?_; rintro e w' ⟨rfl, rfl⟩)
    go_ret
    exact ⟨by rw [HZ.out]; rfl, rfl⟩
theorem depthN_bd (lv : Int) : 1 ≤ depthN lv ∧ depthN lv ≤ 256 := by
  rcases level_cases lv with h | rfl | rfl | h
  · rw [show depthN lv = 1 from if_pos h]; omega
  · decide
  · decide
  · rw [show depthN lv = 256 by unfold depthN; rw [if_neg (by omega), if_neg (by omega), if_neg (by omega)]]; omega
/-- A token's cells. -/
def tkC (t : Tk) : List Value := [.int .u8 (t.1.toNat : Int), .int .i64 (t.2.1 : Int), .int .i64 (t.2.2 : Int)]
def tkV (t : Tk) : Value := .agg #[.int .u8 (t.1.toNat : Int), .int .i64 (t.2.1 : Int), .int .i64 (t.2.2 : Int)]
set_option maxHeartbeats 400000 in
theorem size_any (t : Tk) (w : World) : Calls Tryz.prog 47 #[tkV t] w fun e w' => e = .returned (.int .i64 (tsz t : Nat)) ∧ Below w.heap.size w w' := by
  obtain ⟨b, n, d⟩ := t
  have HT : Hid (tsz (b, n, d) = if n < 1 then 1 else n) := by show _ = _; unfold tsz; simp only; split <;> omega
  unfold tkV
  dsimp only
  by_cases h : n < 1
  · have HZ : Hid (tsz (b, n, d) = 1) := by show _ = _; rw [HT.out, if_pos h]
    have hm : (if (n : Int) < 1 then (1 : Int) else (n : Int)) = 1 := if_pos (by omega)
    have hm2 : (if n < 1 then (1 : Int) else (n : Int)) = 1 := if_pos h
    have hm3 : (if (1 : Int) < (n : Int) then (n : Int) else 1) = 1 := if_neg (by omega)
    have hm4 : (if 1 < n then (n : Int) else 1) = 1 := if_neg (by omega)
    clear h
    go_enter Tryz.func47, Tryz.ntmps47
    go_wp2
    go_ret
    exact ⟨by rw [HZ.out]; rfl, (Below.refl _ w).alloc (Nat.le_refl _) _⟩
  · have HZ : Hid (tsz (b, n, d) = n) := by show _ = _; rw [HT.out, if_neg h]
    have hm : (if (n : Int) < 1 then (1 : Int) else (n : Int)) = n := if_neg (by omega)
    have hm2 : (if n < 1 then (1 : Int) else (n : Int)) = n := if_neg h
    have hm3 : (if (1 : Int) < (n : Int) then (n : Int) else 1) = n := by split <;> omega
    have hm4 : (if 1 < n then (n : Int) else 1) = n := by split <;> omega
    clear h
    go_enter Tryz.func47, Tryz.ntmps47
    go_wp2
    go_ret
    exact ⟨by rw [HZ.out]; rfl, (Below.refl _ w).alloc (Nat.le_refl _) _⟩
set_option maxHeartbeats 1000000 in
theorem longer_any (g g0 : Nat) (A : Option Addr) (l c : Nat) (bs : List UInt8) (a lv : Int) (k : Nat) (w : World) (hl : bs.length = l) (hm : l ≤ 32000) (hb : Bytes w w.heap.size A bs) (hf : LF w g g0 A l c bs) :
    Calls Tryz.prog 67 #[.pointer (some ⟨g, 0, none⟩), .int .i64 a, .int .i64 lv, .int .i64 (k : Int)] w fun e w' => e = .returned (.bool (decide (k < (bestM bs a (depthN lv)).1))) ∧ Below w.heap.size w w' := by
  have HD := Lib.hid (depth_any lv w)
  have hdb := depthN_bd lv
  have HF := Lib.hid (find_any g g0 A l c bs a (depthN lv) w hl hm hb hf (by omega) (by omega))
  obtain ⟨n, hn⟩ : ∃ n, (bestM bs a (depthN lv)).1 = n := ⟨_, rfl⟩
  obtain ⟨d, hd⟩ : ∃ d, (bestM bs a (depthN lv)).2 = d := ⟨_, rfl⟩
  rw [hn, hd] at HF
  rw [hn]
  clear hn hd hb hf hdb
  go_enter Tryz.func67, Tryz.ntmps67
  go_wp2_with (first
    | (go_at_call 65; refine HD.out.mono ?_; rintro e w' ⟨rfl, rfl⟩)
    | (go_at_call 64; refine HF.out.mono ?_; rintro e w5 ⟨rfl, hb5⟩; have HB5 := Lib.hid hb5; clear hb5))
  go_ret
  exact ⟨by simp, HB5.out⟩
set_option maxHeartbeats 1000000 in
theorem token_any (g g0 : Nat) (A : Option Addr) (l c : Nat) (bs : List UInt8) (p : Nat) (lv : Int) (w : World) (hl : bs.length = l) (hm : l ≤ 32000) (hp : p < l) (hb : Bytes w w.heap.size A bs) (hf : LF w g g0 A l c bs) :
    Calls Tryz.prog 46 #[.pointer (some ⟨g, 0, none⟩), .slice A l c, .int .i64 (p : Int), .int .i64 lv] w fun e w' => e = .returned (tkV (tokAt bs lv p)) ∧ Below w.heap.size w w' := by
  obtain ⟨W1, hW1⟩ : ∃ W1, w.alloc (.cells #[.int .u8 0, .int .i64 0, .int .i64 0] 62) = W1 := ⟨_, rfl⟩
  have HZ1 : Hid (W1.heap.size = w.heap.size + 1) := by show _ = _; rw [← hW1]; simp
  have HB1 : Hid (Below w.heap.size w W1) := by show Below _ _ _; rw [← hW1]; exact (Below.refl _ w).alloc (Nat.le_refl _) _
  have HX1 : Hid (W1.heap[w.heap.size]? = some (.cells #[.int .u8 0, .int .i64 0, .int .i64 0] 62)) := by show _ = _; rw [← hW1]; exact heap_alloc_new w _
  have hg := (Array.getElem?_eq_some_iff.1 hf.1).1
  have hg0 := (Array.getElem?_eq_some_iff.1 hf.2).1
  have HD := Lib.hid (fun W => depth_any lv W)
  have HR := Lib.hid (fun W => rightT_any lv W)
  have hdb := depthN_bd lv
  have HF := Lib.hid (fun (W : World) (h : Below w.heap.size w W) => find_any g g0 A l c bs (p : Int) (depthN lv) W hl hm ((hb.below h (Nat.le_refl _)).more h.size) (hf.below h hg hg0) (by omega) (by omega))
  have HLO := Lib.hid (fun (W : World) (h : Below w.heap.size w W) (k : Nat) => longer_any g g0 A l c bs ((p + 1 : Nat) : Int) lv k W hl hm ((hb.below h (Nat.le_refl _)).more h.size) (hf.below h hg hg0))
  obtain ⟨n, hn⟩ : ∃ n, (bestM bs (p : Int) (depthN lv)).1 = n := ⟨_, rfl⟩
  obtain ⟨d, hd⟩ : ∃ d, (bestM bs (p : Int) (depthN lv)).2 = d := ⟨_, rfl⟩
  obtain ⟨m, hmm⟩ : ∃ m, (bestM bs ((p + 1 : Nat) : Int) (depthN lv)).1 = m := ⟨_, rfl⟩
  have HT : Hid (tokAt bs lv p = if n = 0 ∨ (1 < lv ∧ n < 258 ∧ n < m) then (bs.getD p 0, 0, 0) else (0, n, d)) := by show _ = _; rw [tokAt, hn, hd, hmm]
  rw [hn, hd] at HF
  rw [hmm] at HLO
  have HRL : Hid (rightN lv ≥ 2 ↔ 1 < lv) := by
    show _ ↔ _
    rcases level_cases lv with h | rfl | rfl | h
    · rw [show rightN lv = 0 from if_pos h]; omega
    · decide
    · decide
    · rw [show rightN lv = 3 by unfold rightN; rw [if_neg (by omega), if_neg (by omega), if_neg (by omega)]]; omega
  obtain ⟨b, o, rfl, hbB, hc⟩ := hb (by rw [byteCells_length]; omega)
  obtain ⟨x, hx⟩ : ∃ x, bs[p]? = some x := ⟨_, List.getElem?_eq_getElem (by omega)⟩
  have HCX : Hid (∀ W, Below w.heap.size w W → W.cell? ⟨b, o + p, none⟩ = some (.int .u8 (x.toNat : Int))) := fun W h => (h.cell (p := ⟨b, o + p, none⟩) hbB).trans (hc _ _ (byteCells_get hx))
  have hgx : bs.getD p 0 = x := by rw [List.getD, hx]; rfl
  rw [hgx] at HT
  obtain ⟨r, hr⟩ : ∃ r, rightN lv = r := ⟨_, rfl⟩
  rw [hr] at HR HRL
  clear hn hd hmm hc hx hgx hf hg hg0 hdb hr
  have HXW : Hid (∀ W, Below W1.heap.size W1 W → W.heap[w.heap.size]? = some (.cells #[.int .u8 0, .int .i64 0, .int .i64 0] 62)) := fun W h => (h.block _ (by have := HZ1.out; omega)).trans HX1.out
  by_cases hz : n = 0
  · subst hz
    have HT2 : Hid (tokAt bs lv p = (x, 0, 0)) := by show _ = _; rw [HT.out, if_pos (.inl rfl)]
    go_enter Tryz.func46, Tryz.ntmps46
    go_wp2_with (first
      | (go_at_call 65; refine (HD.out _).mono ?_; rintro e w' ⟨rfl, rfl⟩)
      | (go_at_call 64; refine (HF.out _ HB1.out).mono ?_; rintro e w5 ⟨rfl, hb5⟩; have HB5 := Lib.hid hb5; have hx5 := HXW.out w5 hb5; have y0 := HCX.out w5 (HB1.out.trans (hb5.mono (by have := HZ1.out; omega))); have z0 := cell_of_row w5 w.heap.size 0 _ _ _ hx5; have z1 := cell_of_row w5 w.heap.size 1 _ _ _ hx5; have z2 := cell_of_row w5 w.heap.size 2 _ _ _ hx5; have f0 := frozen_of_row w5 w.heap.size 0 _ _ hx5; have f1 := frozen_of_row w5 w.heap.size 1 _ _ hx5; have f2 := frozen_of_row w5 w.heap.size 2 _ _ hx5; clear hb5 hx5))
    refine bodyPost_ret (v := tkV (x, 0, 0)) (by simp [results, Tryz.f46, go_sem, z0, z1, z2, tkV]) rfl ⟨by rw [HT2.out], ?_⟩
    exact (((HB1.out.trans (HB5.out.mono (by have := HZ1.out; omega))).setCell (p := ⟨w.heap.size, 0, none⟩) (Nat.le_refl _) _).setCell (p := ⟨w.heap.size, 1, none⟩) (Nat.le_refl _) _).setCell (p := ⟨w.heap.size, 2, none⟩) (Nat.le_refl _) _
  · have tz : ((n : Int) == 0) = false := by simp; omega
    have tz' : (n == 0) = false := by simp; omega
    by_cases hr : 1 < lv
    · have tr : decide ((2 : Int) ≤ r) = true := decide_eq_true (HRL.out.2 hr)
      by_cases h258 : n < 258
      · have t2 : decide ((n : Int) < 258) = true := decide_eq_true (by omega)
        by_cases hnm : n < m
        · have t3 : decide (n < m) = true := decide_eq_true hnm
          have HT2 : Hid (tokAt bs lv p = (x, 0, 0)) := by show _ = _; rw [HT.out, if_pos (.inr ⟨hr, h258, hnm⟩)]
          have HLO := Lib.hid (fun (W : World) (h : Below w.heap.size w W) => HLO.out W h n)
          rw [t3] at HLO
          clear t3 hnm hr hz
          go_enter Tryz.func46, Tryz.ntmps46
          go_wp2_with (first
            | (go_at_call 65; refine (HD.out _).mono ?_; rintro e w' ⟨rfl, rfl⟩)
            | (go_at_call 64; refine (HF.out _ HB1.out).mono ?_; rintro e w5 ⟨rfl, hb5⟩; have HB5 := Lib.hid hb5; have hx5 := HXW.out w5 hb5; have y0 := HCX.out w5 (HB1.out.trans (hb5.mono (by have := HZ1.out; omega))); have z0 := cell_of_row w5 w.heap.size 0 _ _ _ hx5; have z1 := cell_of_row w5 w.heap.size 1 _ _ _ hx5; have z2 := cell_of_row w5 w.heap.size 2 _ _ _ hx5; have f0 := frozen_of_row w5 w.heap.size 0 _ _ hx5; have f1 := frozen_of_row w5 w.heap.size 1 _ _ hx5; have f2 := frozen_of_row w5 w.heap.size 2 _ _ hx5; clear hb5 hx5)
            | (go_at_call 66; refine (HR.out _).mono ?_; rintro e w' ⟨rfl, rfl⟩)
            | (go_at_call 67; refine (HLO.out _ (HB1.out.trans (HB5.out.mono (by have := HZ1.out; omega)))).mono ?_; rintro e w6 ⟨rfl, hb6⟩; have HB6 := Lib.hid hb6; have hx6 := HXW.out w6 (HB5.out.trans (hb6.mono HB5.out.size)); have y6 := HCX.out w6 ((HB1.out.trans (HB5.out.mono (by have := HZ1.out; omega))).trans (hb6.mono (HB1.out.trans (HB5.out.mono (by have := HZ1.out; omega))).size)); have u0 := cell_of_row w6 w.heap.size 0 _ _ _ hx6; have u1 := cell_of_row w6 w.heap.size 1 _ _ _ hx6; have u2 := cell_of_row w6 w.heap.size 2 _ _ _ hx6; have v0 := frozen_of_row w6 w.heap.size 0 _ _ hx6; have v1 := frozen_of_row w6 w.heap.size 1 _ _ hx6; have v2 := frozen_of_row w6 w.heap.size 2 _ _ hx6; clear hb6 hx6))
          refine bodyPost_ret (v := tkV (x, 0, 0)) (by simp [results, Tryz.f46, go_sem, u0, u1, u2, tkV]) rfl ⟨by rw [HT2.out], ?_⟩
          exact ((((HB1.out.trans (HB5.out.mono (by have := HZ1.out; omega))).trans (HB6.out.mono (HB1.out.trans (HB5.out.mono (by have := HZ1.out; omega))).size)).setCell (p := ⟨w.heap.size, 0, none⟩) (Nat.le_refl _) _).setCell (p := ⟨w.heap.size, 1, none⟩) (Nat.le_refl _) _).setCell (p := ⟨w.heap.size, 2, none⟩) (Nat.le_refl _) _
        · have t3 : decide (n < m) = false := decide_eq_false hnm
          have HT2 : Hid (tokAt bs lv p = (0, n, d)) := by show _ = _; rw [HT.out, if_neg (by omega)]
          have HLO := Lib.hid (fun (W : World) (h : Below w.heap.size w W) => HLO.out W h n)
          rw [t3] at HLO
          clear t3 hnm hr hz
          go_enter Tryz.func46, Tryz.ntmps46
          go_wp2_with (first
            | (go_at_call 65; refine (HD.out _).mono ?_; rintro e w' ⟨rfl, rfl⟩)
            | (go_at_call 64; refine (HF.out _ HB1.out).mono ?_; rintro e w5 ⟨rfl, hb5⟩; have HB5 := Lib.hid hb5; have hx5 := HXW.out w5 hb5; have y0 := HCX.out w5 (HB1.out.trans (hb5.mono (by have := HZ1.out; omega))); have z0 := cell_of_row w5 w.heap.size 0 _ _ _ hx5; have z1 := cell_of_row w5 w.heap.size 1 _ _ _ hx5; have z2 := cell_of_row w5 w.heap.size 2 _ _ _ hx5; have f0 := frozen_of_row w5 w.heap.size 0 _ _ hx5; have f1 := frozen_of_row w5 w.heap.size 1 _ _ hx5; have f2 := frozen_of_row w5 w.heap.size 2 _ _ hx5; clear hb5 hx5)
            | (go_at_call 66; refine (HR.out _).mono ?_; rintro e w' ⟨rfl, rfl⟩)
            | (go_at_call 67; refine (HLO.out _ (HB1.out.trans (HB5.out.mono (by have := HZ1.out; omega)))).mono ?_; rintro e w6 ⟨rfl, hb6⟩; have HB6 := Lib.hid hb6; have hx6 := HXW.out w6 (HB5.out.trans (hb6.mono HB5.out.size)); have y6 := HCX.out w6 ((HB1.out.trans (HB5.out.mono (by have := HZ1.out; omega))).trans (hb6.mono (HB1.out.trans (HB5.out.mono (by have := HZ1.out; omega))).size)); have u0 := cell_of_row w6 w.heap.size 0 _ _ _ hx6; have u1 := cell_of_row w6 w.heap.size 1 _ _ _ hx6; have u2 := cell_of_row w6 w.heap.size 2 _ _ _ hx6; have v0 := frozen_of_row w6 w.heap.size 0 _ _ hx6; have v1 := frozen_of_row w6 w.heap.size 1 _ _ hx6; have v2 := frozen_of_row w6 w.heap.size 2 _ _ hx6; clear hb6 hx6))
          refine bodyPost_ret (v := tkV (0, n, d)) (by simp [results, Tryz.f46, go_sem, u0, u1, u2, tkV]) rfl ⟨by rw [HT2.out], ?_⟩
          exact ((((HB1.out.trans (HB5.out.mono (by have := HZ1.out; omega))).trans (HB6.out.mono (HB1.out.trans (HB5.out.mono (by have := HZ1.out; omega))).size)).setCell (p := ⟨w.heap.size, 0, none⟩) (Nat.le_refl _) _).setCell (p := ⟨w.heap.size, 1, none⟩) (Nat.le_refl _) _).setCell (p := ⟨w.heap.size, 2, none⟩) (Nat.le_refl _) _
      · have t2 : decide ((n : Int) < 258) = false := decide_eq_false (by omega)
        have HT2 : Hid (tokAt bs lv p = (0, n, d)) := by show _ = _; rw [HT.out, if_neg (by omega)]
        clear hr hz
        go_enter Tryz.func46, Tryz.ntmps46
        go_wp2_with (first
          | (go_at_call 65; refine (HD.out _).mono ?_; rintro e w' ⟨rfl, rfl⟩)
          | (go_at_call 64; refine (HF.out _ HB1.out).mono ?_; rintro e w5 ⟨rfl, hb5⟩; have HB5 := Lib.hid hb5; have hx5 := HXW.out w5 hb5; have y0 := HCX.out w5 (HB1.out.trans (hb5.mono (by have := HZ1.out; omega))); have z0 := cell_of_row w5 w.heap.size 0 _ _ _ hx5; have z1 := cell_of_row w5 w.heap.size 1 _ _ _ hx5; have z2 := cell_of_row w5 w.heap.size 2 _ _ _ hx5; have f0 := frozen_of_row w5 w.heap.size 0 _ _ hx5; have f1 := frozen_of_row w5 w.heap.size 1 _ _ hx5; have f2 := frozen_of_row w5 w.heap.size 2 _ _ hx5; clear hb5 hx5)
          | (go_at_call 66; refine (HR.out _).mono ?_; rintro e w' ⟨rfl, rfl⟩))
        refine bodyPost_ret (v := tkV (0, n, d)) (by simp [results, Tryz.f46, go_sem, z0, z1, z2, tkV]) rfl ⟨by rw [HT2.out], ?_⟩
        exact (((HB1.out.trans (HB5.out.mono (by have := HZ1.out; omega))).setCell (p := ⟨w.heap.size, 0, none⟩) (Nat.le_refl _) _).setCell (p := ⟨w.heap.size, 1, none⟩) (Nat.le_refl _) _).setCell (p := ⟨w.heap.size, 2, none⟩) (Nat.le_refl _) _
    · have tr : decide ((2 : Int) ≤ r) = false := decide_eq_false (fun h => hr (HRL.out.1 h))
      have HT2 : Hid (tokAt bs lv p = (0, n, d)) := by show _ = _; rw [HT.out, if_neg (by omega)]
      clear hr hz
      go_enter Tryz.func46, Tryz.ntmps46
      go_wp2_with (first
        | (go_at_call 65; refine (HD.out _).mono ?_; rintro e w' ⟨rfl, rfl⟩)
        | (go_at_call 64; refine (HF.out _ HB1.out).mono ?_; rintro e w5 ⟨rfl, hb5⟩; have HB5 := Lib.hid hb5; have hx5 := HXW.out w5 hb5; have y0 := HCX.out w5 (HB1.out.trans (hb5.mono (by have := HZ1.out; omega))); have z0 := cell_of_row w5 w.heap.size 0 _ _ _ hx5; have z1 := cell_of_row w5 w.heap.size 1 _ _ _ hx5; have z2 := cell_of_row w5 w.heap.size 2 _ _ _ hx5; have f0 := frozen_of_row w5 w.heap.size 0 _ _ hx5; have f1 := frozen_of_row w5 w.heap.size 1 _ _ hx5; have f2 := frozen_of_row w5 w.heap.size 2 _ _ hx5; clear hb5 hx5)
        | (go_at_call 66; refine (HR.out _).mono ?_; rintro e w' ⟨rfl, rfl⟩))
      refine bodyPost_ret (v := tkV (0, n, d)) (by simp [results, Tryz.f46, go_sem, z0, z1, z2, tkV]) rfl ⟨by rw [HT2.out], ?_⟩
      exact (((HB1.out.trans (HB5.out.mono (by have := HZ1.out; omega))).setCell (p := ⟨w.heap.size, 0, none⟩) (Nat.le_refl _) _).setCell (p := ⟨w.heap.size, 1, none⟩) (Nat.le_refl _) _).setCell (p := ⟨w.heap.size, 2, none⟩) (Nat.le_refl _) _
end Go.Proofs.YtaknladkodibaaaGreat
/- Layer 11: the tokens, as their iterator tells them. -/
namespace Go.Proofs.YtaknladkodibaaaGreat
open Go.RowKit Go.Shelf
attribute [local go_sem] Oper.semAt_some

set_option maxHeartbeats 400000 in
theorem each_any (A : Option Addr) (l c : Nat) (lv : Int) (w : World) :
    Calls Tryz.prog 32 #[.slice A l c, .int .i64 lv] w fun e w' => e = .returned (.func (.func 44) #[] #[.pointer (some ⟨w.heap.size, 0, none⟩), .pointer (some ⟨w.heap.size + 1, 0, none⟩)]) ∧
      (w.alloc (.cells #[.slice A l c] 23)).alloc (.cells #[.int .i64 lv] 3) = w' := by
  go_enter Tryz.func32, Tryz.ntmps32
  go_wp2
  go_ret
  exact ⟨rfl, rfl⟩
set_option maxRecDepth 100000 in
set_option maxHeartbeats 2000000 in
theorem each_seq (n B b1 b2 : Nat) (A : Option Addr) (l c : Nat) (bs : List UInt8) (lv : Int) (w0 : World) (hl : bs.length = l) (hm : l ≤ 32000) (hcap : l ≤ c) (hb : Bytes w0 n A bs) (hn : n ≤ w0.heap.size) (hB : B < w0.heap.size) (hB1 : b1 ≠ B) (hB2 : b2 ≠ B) (hown : ownOf B w0 = none)
    (h1 : w0.heap[b1]? = some (.cells #[.slice A l c] 23)) (h2 : w0.heap[b2]? = some (.cells #[.int .i64 lv] 3)) :
    SeqStopsK Fence.wide 5 Tryz.prog 44 #[.pointer (some ⟨b1, 0, none⟩), .pointer (some ⟨b2, 0, none⟩)] (fun t : Tk => #[tkV t]) (KpB n B) (fun xs => xs = toks bs lv 0) (fun pre => pre <+: toks bs lv 0) 32001 w0 := by
  intro gy J Jx W hbl hJ hJx hY h0
  have HL := Lib.hid hl
  have h1W := (hbl.block b1 (Array.getElem?_eq_some_iff.1 h1).1).trans h1
  have h2W := (hbl.block b2 (Array.getElem?_eq_some_iff.1 h2).1).trans h2
  have hbW := hb.below (hbl.mono hn) (Nat.le_refl _)
  have hoW : ownOf B W = none := (ownOf_block (hbl.block B hB)).trans hown
  have hBW : B < W.heap.size := Nat.lt_of_lt_of_le hB hbl.size
  have c1 : W.cell? ⟨b1, 0, none⟩ = some (.slice A l c) := cell_of_row W b1 0 _ _ _ h1W
  have hnW : n ≤ W.heap.size := Nat.le_trans hn hbl.size
  have HNE := Lib.hid (newM_any A l c bs n W hl hm hcap hbW hnW)
  have HY := Lib.hid hY
  have H1 := Lib.hid h1W
  have H2 := Lib.hid h2W
  have HBY := Lib.hid hbW
  have HOW := Lib.hid hoW
  have HSB : Hid (b1 < W.heap.size ∧ b2 < W.heap.size) := ⟨(Array.getElem?_eq_some_iff.1 h1W).1, (Array.getElem?_eq_some_iff.1 h2W).1⟩
  clear h1 h2 hb hown hl hY h1W h2W hbW hoW hbl hn hB
  refine callsIn_of_wp Tryz.func44 rfl trivial ?_ rfl
  simp only [Tryz.ntmps44, List.size_toArray, List.length_cons, List.length_nil, Nat.reduceAdd, Nat.reduceSub, Array.replicate_succ, Array.replicate_zero, List.push_toArray, List.append_toArray, List.nil_append, List.cons_append]
  gi_wp2_with (refine ⟨trivial, ?_⟩; gi_at_call 45; refine (callsIn_wide.2 HNE.out).mono ?_; rintro e w2 ⟨rfl, hf, hb2⟩; have HF := Lib.hid hf; have HB2 := Lib.hid hb2; clear hf hb2)
  have HGS : Hid (W.heap.size + 1 < w2.heap.size) := (Array.getElem?_eq_some_iff.1 HF.out.1).1
  gi_loopw [5] (fun i wr => ∃ (p : Nat) (pre : List Tk), i = .int .i64 (p : Int) ∧ toks bs lv 0 = pre ++ toks bs lv p ∧ p ≤ l + 258 ∧ wr.heap[b1]? = some (.cells #[.slice A l c] 23) ∧ wr.heap[b2]? = some (.cells #[.int .i64 lv] 3) ∧
    LF wr (W.heap.size + 1) W.heap.size A l c bs ∧ Bytes wr n A bs ∧ W.heap.size + 2 ≤ wr.heap.size ∧ (∀ k, ownOf B wr = some k → W.heap.size + 2 ≤ k ∧ k < wr.heap.size) ∧ J pre wr) (fun i _ => l + 259 - (intOf i).toNat)
  case atStart =>
    have hgs := HGS.out
    have hb2 := HB2.out
    exact ⟨0, [], rfl, rfl, by omega, (hb2.block _ HSB.out.1).trans H1.out, (hb2.block _ HSB.out.2).trans H2.out, HF.out, HBY.out.below (hb2.mono hnW) (Nat.le_refl _), by omega,
      (fun k hk => by rw [ownOf_block (hb2.block B hBW), HOW.out] at hk; cases hk), abidesBelow hJ h0 hb2⟩
  case round =>
    obtain ⟨p, pre, rfl, htk, hpl, g1, g2, hf, hby, hsz, hown, hJs⟩ := hrel
    have d1 : wr.cell? ⟨b1, 0, none⟩ = some (.slice A l c) := cell_of_row wr b1 0 _ _ _ g1
    have d2 : wr.cell? ⟨b2, 0, none⟩ = some (.int .i64 lv) := cell_of_row wr b2 0 _ _ _ g2
    have HT := Lib.hid htk
    clear htk c1
    by_cases hp : p < l
    · obtain ⟨t, ht⟩ : ∃ t, tokAt bs lv p = t := ⟨_, rfl⟩
      have HTS := Lib.hid (toks_step (bs := bs) (lv := lv) (p := p) (by rw [HL.out]; exact hp))
      have hTL := tokAt_le bs lv p
      have HTK := Lib.hid (token_any (W.heap.size + 1) W.heap.size A l c bs p lv wr HL.out hm hp (hby.more (by omega)) hf)
      rw [ht] at HTS HTK hTL
      clear ht
      obtain ⟨tb, tn, td⟩ := t
      simp only [tkV] at HTK
      have hts : tsz (tb, tn, td) ≤ 258 := by unfold tsz; simp only at hTL ⊢; omega
      have hts1 := tsz_pos (tb, tn, td)
      have G1 := Lib.hid g1
      have G2 := Lib.hid g2
      have GF := Lib.hid hf
      have GB := Lib.hid hby
      have GO := Lib.hid hown
      clear g1 g2 hf hby hown
      gi_wp2_with (refine ⟨trivial, ?_⟩; gi_at_call 46; refine (callsIn_wide.2 HTK.out).mono ?_; rintro e w5 ⟨rfl, hb5⟩; have HB5 := Lib.hid hb5; clear hb5)
      obtain ⟨W6, hW6⟩ : ∃ W6, w5.alloc (.cells #[.int .u8 (tb.toNat : Int), .int .i64 (tn : Int), .int .i64 (td : Int)] 62) = W6 := ⟨_, rfl⟩
      have HB6 : Hid (Below wr.heap.size wr W6) := by show Below _ _ _; rw [← hW6]; exact HB5.out.alloc HB5.out.size _
      have HZ6 : Hid (W6.heap.size = w5.heap.size + 1) := by show _ = _; rw [← hW6]; simp
      have HX6 : Hid (W6.heap[w5.heap.size]? = some (.cells #[.int .u8 (tb.toNat : Int), .int .i64 (tn : Int), .int .i64 (td : Int)] 62)) := by show _ = _; rw [← hW6]; exact heap_alloc_new w5 _
      have hJ6 : J pre W6 := abidesBelow hJ hJs HB6.out
      have HPX : Hid (pre ++ [(tb, tn, td)] <+: toks bs lv 0) := by
        show _ <+: _
        rw [HT.out, HTS.out]
        exact ⟨toks bs lv (p + tsz (tb, tn, td)), by simp⟩
      have hlen : pre.length < 32001 := by
        have h := toks_len bs lv 0
        have := HL.out
        rw [HT.out, List.length_append] at h
        omega
      obtain ⟨fn, tmps, assign, body, hy, hR⟩ := HY.out pre (tb, tn, td) W6 hJ6 hlen
      simp only [tkV] at hy
      have HR := Lib.hid hR
      have hbr : B < wr.heap.size := by omega
      have HOB : Hid (ownOf B W6 = ownOf B wr) := ownOf_block (HB6.out.block B hbr)
      clear hR hJ6
      rw [hW6, hy]
      clear hW6
      first | gi_upon | gi_wp2
      refine HR.out.mono ?_
      rintro ee W3 (⟨rfl, hJ3, hk3⟩ | ⟨rfl, hJx3⟩)
      · have hno : ∀ k, k < W.heap.size + 2 ∨ wr.heap.size ≤ k → ownOf B W6 ≠ some k := fun k hk e => by
          rw [HOB.out] at e
          have := GO.out k e
          omega
        have hsb := HSB.out
        have m1 := hk3.cells b1 _ ((HB6.out.block _ (by omega)).trans G1.out) rfl hB1 (hno _ (by omega))
        have m2 := hk3.cells b2 _ ((HB6.out.block _ (by omega)).trans G2.out) rfl hB2 (hno _ (by omega))
        have m3 := hk3.cells (W.heap.size + 1) _ ((HB6.out.block _ (by omega)).trans GF.out.1) rfl (by omega) (hno _ (by omega))
        have m4 := hk3.cells W.heap.size _ ((HB6.out.block _ (by omega)).trans GF.out.2) rfl (by omega) (hno _ (by omega))
        have hx5 := HB5.out.size
        have m5 := hk3.cells w5.heap.size _ HX6.out rfl (by omega) (hno _ (by omega))
        have MB := Lib.hid ((GB.out.below (HB6.out.mono (by omega)) (Nat.le_refl _)).below hk3.low (Nat.le_refl _))
        have MO : Hid (∀ k, ownOf B W3 = some k → W.heap.size + 2 ≤ k ∧ k < W3.heap.size) := fun k hk => by
          have hz6 := HZ6.out
          have hs3 := hk3.size
          obtain ⟨o1, o2⟩ := hk3.own k hk
          rw [HOB.out] at o1 o2
          rcases o1 with o1 | o1
          · have := GO.out k o1; omega
          · rcases o2 with o2 | o2
            · have := GO.out k o2; omega
            · omega
        have MZ : Hid (W.heap.size + 2 ≤ W3.heap.size ∧ B < W3.heap.size ∧ b1 < W3.heap.size ∧ b2 < W3.heap.size) := by
          have hz6 := HZ6.out
          have hs3 := hk3.size
          show _ ∧ _ ∧ _ ∧ _
          omega
        have k0' : W3.cell? ⟨w5.heap.size, 0, none⟩ = some (.int .u8 (tb.toNat : Int)) := cell_of_row W3 _ 0 _ _ _ m5
        have k1' : W3.cell? ⟨w5.heap.size, 1, none⟩ = some (.int .i64 (tn : Int)) := cell_of_row W3 _ 1 _ _ _ m5
        have k2' : W3.cell? ⟨w5.heap.size, 2, none⟩ = some (.int .i64 (td : Int)) := cell_of_row W3 _ 2 _ _ _ m5
        have HSI := Lib.hid (size_any (tb, tn, td) W3)
        simp only [tkV] at HSI
        obtain ⟨sz, hsz⟩ : ∃ sz, tsz (tb, tn, td) = sz := ⟨_, rfl⟩
        rw [hsz] at HSI HTS
        rw [hsz] at hts hts1
        have M1 := Lib.hid m1
        have M2 := Lib.hid m2
        have M3 := Lib.hid m3
        have M4 := Lib.hid m4
        have HJ3 := Lib.hid hJ3
        clear m1 m2 m3 m4 m5 hJ3 hk3 hno hsz
        gi_wp2_with (refine ⟨trivial, ?_⟩; gi_at_call 47; refine (callsIn_wide.2 HSI.out).mono ?_; rintro e w7 ⟨rfl, hb7⟩; have HB7 := Lib.hid hb7; clear hb7)
        have hmz := MZ.out
        have hb7 := HB7.out
        refine ⟨⟨p + sz, pre ++ [(tb, tn, td)], by go_num, by rw [HT.out, HTS.out]; simp, by omega, (hb7.block _ hmz.2.2.1).trans M1.out, (hb7.block _ hmz.2.2.2).trans M2.out,
          ⟨(hb7.block _ (by omega)).trans M3.out, (hb7.block _ (by omega)).trans M4.out⟩, MB.out.below (hb7.mono (by omega)) (Nat.le_refl _), by have := hb7.size; omega, (fun k hk => by rw [ownOf_block (hb7.block B hmz.2.1)] at hk; have := MO.out k hk; have := hb7.size; omega), abidesBelow hJ HJ3.out hb7⟩, ?_⟩
        simp [intOf]
        omega
      · gi_wp2
        refine bodyPost_ret (results_none rfl _ _ _) rfl ?_
        exact ⟨⟨_, rfl⟩, .inr ⟨pre ++ [(tb, tn, td)], HPX.out, hJx3⟩⟩
    · have HE := Lib.hid (toks_end (bs := bs) (lv := lv) (p := p) (by rw [HL.out]; omega))
      have t0 : decide ((p : Int) < (l : Int)) = false := decide_eq_false (by omega)
      clear g1 g2 hf hby hown
      gi_wp2
      go_end0
      exact ⟨⟨_, rfl⟩, .inl ⟨pre, by rw [HT.out, HE.out, List.append_nil], hJs⟩⟩
end Go.Proofs.YtaknladkodibaaaGreat
/- Layer 11: Split: all tokens, as a row. -/
namespace Go.Proofs.YtaknladkodibaaaGreat
open Go.RowKit Go.Shelf
attribute [local go_sem] Oper.semAt_some

theorem tokElem : Elem Tryz.prog 46 62 (.agg #[.int .u8 0, .int .i64 0, .int .i64 0]) 3 24 := Elem.of Tryz.underlying46 (by kernel_rfl) (by kernel_rfl) (by omega)
theorem tkC_one (t : Tk) : ∀ u ∈ tkC t, u.oneCell' = true := fun u hu => by
  unfold tkC at hu
  simp only [List.mem_cons, List.not_mem_nil, or_false] at hu
  rcases hu with rfl | rfl | rfl <;> rfl
theorem tkC_cells (W : World) (t : Tk) : Cells (W.alloc (.cells #[.int .u8 (t.1.toNat : Int), .int .i64 (t.2.1 : Int), .int .i64 (t.2.2 : Int)] 62)) (W.heap.size + 1) (some ⟨W.heap.size, 0, none⟩) (tkC t) := fun _ =>
  ⟨W.heap.size, 0, rfl, by omega, fun j u hu => by
    rw [Nat.zero_add, cell_of_row _ W.heap.size j _ _ _ (heap_alloc_new W _), ← Array.getElem?_toList]
    exact hu⟩
theorem kpbT_append {W w1 : World} {n B : Nat} {v v' : Value} {k m : Nat} {xs ys : List Value} {tmp : Obj} (hv : Boxed W B 46 v) (hrow : W.ownsRow n 62 3 v k xs) (hn : n ≤ W.heap.size) (hB : n ≤ B) (hap : App (W.alloc tmp) n 62 3 v m ys w1 v') :
    Boxed w1 B 46 v ∧ Boxed (w1.setCell ⟨B, 0, none⟩ v') B 46 v' ∧ (w1.setCell ⟨B, 0, none⟩ v').ownsRow n 62 3 v' m ys ∧ KeepsOthers W (w1.setCell ⟨B, 0, none⟩ v') ∧ Below n W (w1.setCell ⟨B, 0, none⟩ v') ∧ KpB n B W (w1.setCell ⟨B, 0, none⟩ v') := by
  obtain ⟨p1, p2, p3, p4, p5⟩ := hv.appended (by decide) hrow hn hB hap.own hap.grow
  have hs1 := hap.grow.size
  have hs2 : W.heap.size + 1 ≤ w1.heap.size := by simpa using hs1
  refine ⟨p1, p2, p3, p4, p5, p5, fun j o hj ho hjB hno => ?_, fun j hj => ?_, p4.size⟩
  · have hlt := (Array.getElem?_eq_some_iff.1 hj).1
    rw [ownOf_box hv] at hno
    exact (Below.heap_setCell w1 ⟨B, 0, none⟩ v' j hjB).trans ((hap.grow.block j (by simp; omega) (fun e => hno e.symm)).trans ((Below.heap_alloc W tmp j hlt).trans hj))
  · rw [ownOf_box p2] at hj
    rw [ownOf_box hv]
    rcases hap.loc with h | ⟨g, h, hg⟩
    · rw [h] at hj; exact ⟨.inl hj, .inl hj⟩
    · rw [h] at hj
      cases hj
      have hlt := own_lt p3 j h
      refine ⟨.inr (by simp at hg; omega), .inr hlt⟩
set_option maxRecDepth 100000 in
set_option maxHeartbeats 4000000 in
theorem appendSeqT_any (gf : Nat) (lb : Array Value) (L : List Tk) (hlen : L.length ≤ 32001) (w : World) (eg : ∀ args w, (callFunc gf args).run Tryz.prog w = .ok (.enter gf args) w)
    (hseq : ∀ W : World, Below w.heap.size w W → w.heap.size < W.heap.size → ownOf w.heap.size W = none → SeqStopsK Fence.wide 5 Tryz.prog gf lb (fun t : Tk => #[tkV t]) (KpB w.heap.size w.heap.size) (fun xs => xs = L) (fun pre => pre <+: L) 32001 W) :
    Calls Tryz.prog 43 #[.slice none 0 0, .func (.func gf) #[] lb] w fun e w' => ∃ v, e = .returned v ∧ w'.ownsRow w.heap.size 62 3 v L.length (L.map tkC).flatten ∧ Below w.heap.size w w' := by
  refine (callsIn_wide (n := 6)).1 ?_
  refine callsIn_of_wp_marks Tryz.func43 rfl trivial ?_ rfl
  simp only [Tryz.ntmps43, List.size_toArray, List.length_cons, List.length_nil, Nat.reduceAdd, Nat.reduceSub, Array.replicate_succ, Array.replicate_zero, List.push_toArray, List.append_toArray, List.nil_append, List.cons_append]
  gi_wp2
  obtain ⟨W1, hW1⟩ : ∃ W1, w.alloc (.cells #[.slice none 0 0] 46) = W1 := ⟨_, rfl⟩
  have bO : Boxed W1 w.heap.size 46 (.slice none 0 0) := by rw [← hW1]; exact Boxed.new w _ _
  have hB0 : Below w.heap.size w W1 := by rw [← hW1]; exact (Below.refl _ w).alloc (Nat.le_refl _) _
  have hz : W1.heap.size = w.heap.size + 1 := by rw [← hW1]; simp
  rw [hW1]
  clear hW1
  refine wpIn_rangeFunc_ownH rfl (by omega) (gf := gf) (lb := lb) rfl trivial eg (hseq W1 hB0 (by omega) (by rw [ownOf_box bO]; rfl))
    (fun h k => h.trans k) (fun W l o o' hl ho hc _ => KpB.putObj W l o o' (by omega) (by omega) ho hc) (Below.refl _ _) (fun _ => rfl)
    (fun pre W => (∃ v, Boxed W w.heap.size 46 v ∧ W.ownsRow w.heap.size 62 3 v pre.length (pre.map tkC).flatten ∧ True) ∧ Below w.heap.size w W)
    (fun _ _ _ => False)
    (OwnFrom.and (Own.from (holdsRow_own w.heap.size w.heap.size 46 62 3 (fun pre : List Tk => pre.length) (fun pre => (pre.map tkC).flatten) (fun _ _ => True)) _) (ownFrom_below (Nat.le_refl _) (by omega)))
    (fun _ _ _ _ _ h _ _ => h)
    ⟨⟨_, bO, World.ownsRow_nil _ _ _ _, trivial⟩, hB0⟩
    (fun t a' W => ∃ Bx, W.heap[Bx]? = some (.cells #[.int .u8 (t.1.toNat : Int), .int .i64 (t.2.1 : Int), .int .i64 (t.2.2 : Int)] 62) ∧ a' = { tmps := #[.slice none 0 0, .func (.func gf) #[] lb, .pointer (some ⟨w.heap.size, 0, none⟩), undef, .slice none 0 0, .pointer (some ⟨Bx, 0, none⟩), .func (.func gf) #[] lb, tkV t, undef, undef, undef, undef, undef], defers := [] })
    (fun t a' _ X Y row hs hg hr => by
      obtain ⟨Bx, h1, h2⟩ := hs
      refine ⟨Bx, (hg.block Bx (Array.getElem?_eq_some_iff.1 h1).1 (fun e => ?_)).trans h1, h2⟩
      obtain ⟨_, o, ho, hc⟩ := hr Bx e.symm
      rw [h1] at ho; cases ho; cases hc)
    ?assign ?body ?done ?stop
  case assign =>
    rintro g pre ⟨tb, tn, td⟩ W K hi hK
    simp only [tkV]
    gi_wp2
    obtain ⟨⟨v, hv, hrow, _⟩, hB⟩ := hi
    exact hK _ _ ((KeepsOthers.alloc _ _).from _) (kpb_alloc _ hB.size hv.lt) ⟨⟨v, hv.alloc _, hrow.alloc _, trivial⟩, hB.alloc hB.size _⟩ ⟨W.heap.size, heap_alloc_new W _, rfl⟩
  case body =>
    rintro g pre ⟨tb, tn, td⟩ a' W hl ⟨r, hr⟩ ⟨⟨v, hv, hrow, _⟩, hB⟩ ⟨Bx, hx, rfl⟩ hlt
    have hc := hv.cell
    have k0 : W.cell? ⟨Bx, 0, none⟩ = some (.int .u8 (tb.toNat : Int)) := cell_of_row W _ 0 _ _ _ hx
    have k1 : W.cell? ⟨Bx, 1, none⟩ = some (.int .i64 (tn : Int)) := cell_of_row W _ 1 _ _ _ hx
    have k2 : W.cell? ⟨Bx, 2, none⟩ = some (.int .i64 (td : Int)) := cell_of_row W _ 2 _ _ _ hx
    clear hx
    gi_wp2_with (gi_at_builtin; refine wpListIn_app _ tokElem rfl _ _ rfl w.heap.size v pre.length _ rfl (hrow.alloc _) (W.heap.size + 1) (some ⟨W.heap.size, 0, none⟩) 1 1 (tkC (tb, tn, td)) rfl rfl (tkC_cells W (tb, tn, td)) (tkC_one _) (by unfold maxLen; omega) (by omega) (by have := hB.size; simp; omega) ?_; intro A' c' w1 hap; obtain ⟨hv1, hv2, hr2, hk2, hb2, hkp⟩ := kpbT_append hv hrow hB.size (Nat.le_refl _) hap; have hc1 := hv1.cell; have hf1 := hv1.frozen)
    exact ⟨hk2.from _, hkp, ⟨_, hv2, by simpa using hr2, trivial⟩, hB.trans hb2⟩
  case done =>
    rintro D ys W hD rfl ⟨⟨v, hv, hrow, _⟩, hB⟩ hK
    have hc := hv.cell
    gi_wp2
    refine ⟨by simp, .inl ⟨_, _, rfl, run_takeDeferred hK, ?_⟩⟩
    exact ⟨_, results_tmp rfl _ _ _, v, rfl, ownsRow_putObj hrow _ hK rfl, hB.trans ((Below.refl _ W).grown (grownBy_putObj' W D _) (by have := hB.size; omega) (fun k e => by cases e; omega))⟩
  case stop =>
    rintro D c pre W _ _ h _
    exact h.elim
end Go.Proofs.YtaknladkodibaaaGreat
