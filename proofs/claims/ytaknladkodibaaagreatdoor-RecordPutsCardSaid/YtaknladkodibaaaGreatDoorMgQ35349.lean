/- Layer 13: the reference's Right and Weights. -/
import Derived.Test.YtaknladkodibaaaGreatDoorMgQ35348
import Derived.Test.YtaknladkodibaaaGreatDoorMgQ35311
import Derived.Test.YtaknladkodibaaaGreatDoorMgQ35347
import Derived.Test.YtaknladkodibaaaGreatDoorMgQ35326
import Derived.Test.YtaknladkodibaaaGreatDoorMgQ35328
import Derived.WalkMore
import Derived.Test.YtaknladkodibaaaGreatDoorMgQ35339
import Derived.Test.YtaknladkodibaaaGreatDoorMgQ35305
import Derived.Test.YtaknladkodibaaaGreatDoorMgQ35346
import Derived.Test.YtaknladkodibaaaGreatDoorMgQ35324
import Derived.Test.YtaknladkodibaaaGreatDoorMgQ35345
import Derived.Deep.RegionLaw
import Derived.Deep.RegionHeld3
namespace Go.Proofs.YtaknladkodibaaaGreatDoor
open Go.RowKit BitsP SymP
attribute [local go_sem ↓] Go.wp_at_zero Go.wp_at_succ

/-- A token's symbols, of the reference. -/
theorem rsplitT_any (t : Tk) (w : World) (h : okT t) :
    Calls Tryz.prog 119 #[.agg #[.int .u8 (t.1.toNat : Int), .int .i64 (t.2.1 : Int), .int .i64 (t.2.2 : Int)]] w fun e w' => e = .returned (.tuple #[agC ((cls1 t).1 : Nat) ((cls1 t).2.1 : Nat) ((cls1 t).2.2 : Nat), agC ((cls2 t).1 : Nat) ((cls2 t).2.1 : Nat) ((cls2 t).2.2 : Nat), .bool (isM t)]) ∧ Below w.heap.size w w' := by
  obtain ⟨y, l, d⟩ := t
  rcases h with ⟨h1, h2⟩ | ⟨h1, h2, h3, h4, h5⟩
  · dsimp only at h1 h2
    subst h1 h2
    have e1 : cls1 (y, 0, 0) = (y.toNat, 0, 0) := by unfold cls1; rw [if_pos rfl]
    have e2 : cls2 (y, 0, 0) = (0, 0, 0) := by unfold cls2; rw [if_pos rfl]
    have e3 : isM (y, 0, 0) = false := by unfold isM; simp
    rw [e1, e2, e3]
    exact rsplit_byte y.toNat w y.toNat_lt
  · dsimp only at h1 h2 h3 h4 h5
    subst h5
    obtain ⟨l', rfl⟩ : ∃ l', l = l' + 3 := ⟨l - 3, by omega⟩
    obtain ⟨d', rfl⟩ : ∃ d', d = d' + 1 := ⟨d - 1, by omega⟩
    have e1 : cls1 (0, l' + 3, d' + 1) = (classC l' + 257, bitsC (classC l'), l' % 2 ^ bitsC (classC l')) := by unfold cls1; rw [if_neg (by dsimp only; omega)]; rfl
    have e2 : cls2 (0, l' + 3, d' + 1) = (classC d', bitsC (classC d'), d' % 2 ^ bitsC (classC d')) := by unfold cls2; rw [if_neg (by dsimp only; omega)]; rfl
    have e3 : isM (0, l' + 3, d' + 1) = true := by unfold isM; simp
    rw [e1, e2, e3]
    exact rsplit_match l' d' w (by omega) (by omega)
theorem wt1_ref (ts : List Tk) : incW (List.replicate 273 0) (256 :: fsts ts) = wt1 ts := by
  apply List.ext_getElem?
  intro s
  by_cases h : s < 273
  · rw [wt1, incW_at 273 _ h, incW_at 273 _ h, List.count_cons, List.count_append, List.count_cons, List.count_nil]
    congr 1
    omega
  · rw [List.getElem?_eq_none (by rw [incW_len, List.length_replicate]; omega), List.getElem?_eq_none (by rw [wt1_len]; omega)]
set_option maxRecDepth 100000 in
set_option maxHeartbeats 4000000 in
theorem rweights_any (A : Option Addr) (l c : Nat) (ts : List Tk) (w : World) (hl : ts.length = l) (hm : l ≤ 65536) (hk : ∀ t ∈ ts, okT t) (hc : ∀ k t, ts[k]? = some t → TkAt w A k (t.1.toNat : Int) (t.2.1 : Int) (t.2.2 : Int)) :
    Calls Tryz.prog 115 #[.slice A l c] w fun e w' => Below w.heap.size w w' ∧ ∃ g1 g2, e = .returned (.tuple #[.slice (some ⟨g1, 0, none⟩) 273 273, .slice (some ⟨g2, 0, none⟩) 30 30]) ∧ NB w' g1 (wt1 ts) ∧ NB w' g2 (wt2 ts) ∧ w.heap.size ≤ g1 ∧ w.heap.size ≤ g2 := by
  have HL := Lib.hid hl
  have HK := Lib.hid hk
  have HC := Lib.hid hc
  have mk1 : ∀ W, (Instr.makeSlice 156 (.int .i64 273) (.int .i64 273)).run Tryz.prog W = .ok (.slice (some ⟨W.heap.size, 0, none⟩) 273 273) (W.alloc (.cells (madeCells #[.int .i64 0] 273) 3)) := fun W => make_ints 273 (by omega) W
  have mk2 : ∀ W, (Instr.makeSlice 156 (.int .i64 30) (.int .i64 30)).run Tryz.prog W = .ok (.slice (some ⟨W.heap.size, 0, none⟩) 30 30) (W.alloc (.cells (madeCells #[.int .i64 0] 30) 3)) := fun W => make_ints 30 (by omega) W
  clear hk hc hl
  go_enter Tryz.func115, Tryz.ntmps115
  go_upto_region 1 with fail
  go_region
  · have HZ1 : Hid (NB (((w.alloc (.cells (madeCells #[.int .i64 0] 273) 3)).alloc (.cells (madeCells #[.int .i64 0] 30) 3)).drew) w.heap.size (List.replicate 273 0)) := ((wei_made w 273).below (B := (w.alloc (.cells (madeCells #[.int .i64 0] 273) 3)).heap.size) (((Below.refl _ _).alloc (Nat.le_refl _) _).drew) (by simp))
    have HZ2 : Hid (NB (((w.alloc (.cells (madeCells #[.int .i64 0] 273) 3)).alloc (.cells (madeCells #[.int .i64 0] 30) 3)).drew) (w.heap.size + 1) (List.replicate 30 0)) := (by have h := wei_made (w.alloc (.cells (madeCells #[.int .i64 0] 273) 3)) 30; rw [World.size_alloc] at h; exact h)
    have HB0 : Hid (Below w.heap.size w (((w.alloc (.cells (madeCells #[.int .i64 0] 273) 3)).alloc (.cells (madeCells #[.int .i64 0] 30) 3)).drew)) := (((Below.refl w.heap.size w).alloc (Nat.le_refl _) _).alloc (by simp) _).drew
    obtain ⟨W0, hW0⟩ : ∃ W0, ((w.alloc (.cells (madeCells #[.int .i64 0] 273) 3)).alloc (.cells (madeCells #[.int .i64 0] 30) 3)).drew = W0 := ⟨_, rfl⟩
    rw [hW0] at HZ1 HZ2 HB0 ⊢
    clear hW0 mk1 mk2
    have f0 : W0.frozen? ⟨w.heap.size, 256, none⟩ = false := HZ1.out.free
    have q0 : W0.cell? ⟨w.heap.size, 256, none⟩ = some (.int .i64 ((0 : Nat) : Int)) := HZ1.out.cell (by simp)
    obtain ⟨V0, hV0⟩ : ∃ V0, W0.setCell ⟨w.heap.size, 256, none⟩ (.int .i64 1) = V0 := ⟨_, rfl⟩
    have HS1 : Hid (NB V0 w.heap.size (incW (List.replicate 273 0) (256 :: fsts (ts.take 0)))) := by
      show NB _ _ _
      rw [← hV0]
      exact HZ1.out.set 256 1
    have HS2 : Hid (NB V0 (w.heap.size + 1) (incW (List.replicate 30 0) (mts (ts.take 0)))) := by
      show NB _ _ _
      rw [← hV0]
      exact (Below.heap_setCell _ _ _ _ (by show (w.heap.size + 1) ≠ w.heap.size; omega)).trans HZ2.out
    have HSB : Hid (Below w.heap.size w V0) := by show Below _ _ _; rw [← hV0]; exact HB0.out.setCell (by show w.heap.size ≤ w.heap.size; omega) _
    have HV0 := Lib.hid hV0
    clear hV0
    go_upto_block 3 with fail
    rw [HV0.out]
    clear HV0 HZ1 HZ2 HB0 f0 q0
    go_wp2
    go_loopg [6, 7] l (fun gk s6 i wr => ∃ (k : Nat) (b6 : Bool), k + gk = l ∧ i = .int .i64 (k : Int) ∧ s6 = .bool b6 ∧ (b6 = true ↔ mts (ts.take k) = []) ∧ NB wr w.heap.size (incW (List.replicate 273 0) (256 :: fsts (ts.take k))) ∧ NB wr (w.heap.size + 1) (incW (List.replicate 30 0) (mts (ts.take k))) ∧ Below w.heap.size w wr)
    case atStart => exact ⟨0, true, by omega, rfl, rfl, by simp [mts], HS1.out, HS2.out, HSB.out⟩
    case round =>
      obtain ⟨k, b6, hkg, rfl, rfl, hb6, hn1, hn2, hbel⟩ := hrel
      have HNB1 := Lib.hid hn1
      have HNB2 := Lib.hid hn2
      have HBEL := Lib.hid hbel
      have HB6E := Lib.hid hb6
      clear hn1 hn2 hbel hb6 HS1 HS2 HSB
      have hml := mts_len (ts.take k)
      rw [List.length_take] at hml
      by_cases hkl : k < l
      · obtain ⟨t, ht⟩ : ∃ t, ts[k]? = some t := ⟨_, List.getElem?_eq_getElem (by rw [HL.out]; exact hkl)⟩
        have hok := HK.out t (List.mem_of_getElem? ht)
        have HSP := Lib.hid (fun W => rsplitT_any t W hok)
        have hc1 := cls1_lt hok
        have hc2 := cls2_lt hok
        have HTK : Hid (ts.take (k + 1) = ts.take k ++ [t]) := by show _ = _; rw [List.take_add_one, ht]; rfl
        have HF : Hid (256 :: fsts (ts.take (k + 1)) = (256 :: fsts (ts.take k)) ++ [(cls1 t).1]) := by show _ = _; rw [HTK.out, fsts_snoc]; rfl
        have HMT : Hid (mts (ts.take (k + 1)) = if isM t then mts (ts.take k) ++ [(cls2 t).1] else mts (ts.take k)) := by show _ = _; rw [HTK.out, mts_snoc]
        obtain ⟨b, o, rfl, hbB, v0, v1, v2⟩ := (HC.out k t ht).below HBEL.out
        have HA1 : Hid ((incW (List.replicate 273 0) (256 :: fsts (ts.take k)))[(cls1 t).1]? = some ((256 :: fsts (ts.take k)).count (cls1 t).1)) := incW_at 273 _ hc1.1
        have HA2 : Hid ((incW (List.replicate 30 0) (mts (ts.take k)))[(cls2 t).1]? = some ((mts (ts.take k)).count (cls2 t).1)) := incW_at 30 _ hc2.1
        have HU1 : Hid (incW (List.replicate 273 0) (256 :: fsts (ts.take (k + 1))) = (incW (List.replicate 273 0) (256 :: fsts (ts.take k))).set (cls1 t).1 ((256 :: fsts (ts.take k)).count (cls1 t).1 + 1)) := by
          show _ = _
          rw [HF.out, incW_append, incW_cons (incW (List.replicate 273 0) (256 :: fsts (ts.take k))), List.getD, HA1.out]
          rfl
        have HU2 : Hid (incW (List.replicate 30 0) (mts (ts.take k) ++ [(cls2 t).1]) = (incW (List.replicate 30 0) (mts (ts.take k))).set (cls2 t).1 ((mts (ts.take k)).count (cls2 t).1 + 1)) := by
          show _ = _
          rw [incW_append, incW_cons, List.getD, HA2.out]
          rfl
        have hcn1 : (256 :: fsts (ts.take k)).count (cls1 t).1 ≤ 65537 := by
          have h := List.count_le_length (a := (cls1 t).1) (l := 256 :: fsts (ts.take k))
          rw [List.length_cons, fsts_len, List.length_take] at h
          omega
        have hcn2 : (mts (ts.take k)).count (cls2 t).1 ≤ 65536 := by
          have h := List.count_le_length (a := (cls2 t).1) (l := mts (ts.take k))
          omega
        obtain ⟨l1, hl1⟩ : ∃ l1, incW (List.replicate 273 0) (256 :: fsts (ts.take k)) = l1 := ⟨_, rfl⟩
        obtain ⟨l2, hl2⟩ : ∃ l2, incW (List.replicate 30 0) (mts (ts.take k)) = l2 := ⟨_, rfl⟩
        have HL2 := Lib.hid hl2
        rw [hl1] at HNB1 HA1 HU1
        rw [hl2] at HNB2 HA2 HU2
        obtain ⟨a1, ha1⟩ : ∃ a1, (256 :: fsts (ts.take k)).count (cls1 t).1 = a1 := ⟨_, rfl⟩
        obtain ⟨a2, ha2⟩ : ∃ a2, (mts (ts.take k)).count (cls2 t).1 = a2 := ⟨_, rfl⟩
        rw [ha1] at HA1 HU1 hcn1
        rw [ha2] at HA2 HU2 hcn2
        obtain ⟨⟨n1, b1, x1⟩, hq1⟩ : ∃ q, cls1 t = q := ⟨_, rfl⟩
        obtain ⟨⟨n2, b2, x2⟩, hq2⟩ : ∃ q, cls2 t = q := ⟨_, rfl⟩
        rw [hq1] at HSP HA1 HU1 hc1
        rw [hq2] at HSP HA2 HU2 hc2 HMT
        obtain ⟨m, hmm⟩ : ∃ m, isM t = m := ⟨_, rfl⟩
        rw [hmm] at HSP HMT
        dsimp only at HSP HA1 HU1 HA2 HU2 HMT hc1 hc2
        have hn273 := hc1.1
        have hn30 := hc2.1
        clear ht hok hl1 hl2 ha1 ha2 hq1 hq2 hmm hc1 hc2 hml
        cases m with
        | true =>
          go_upto_region 8 with (go_at_call 119; refine (HSP.out _).mono ?_; rintro e w4 ⟨rfl, hb4⟩; unfold agC; obtain ⟨W5, hW5⟩ : ∃ W5, (w4.alloc (.cells #[.int .i64 (n1 : Int), .int .i64 (b1 : Int), .int .u32 (x1 : Int)] 181)).alloc (.cells #[.int .i64 (n2 : Int), .int .i64 (b2 : Int), .int .u32 (x2 : Int)] 181) = W5 := ⟨_, rfl⟩; have hb6 : Below wr.heap.size wr W5 := (by rw [← hW5]; exact (hb4.alloc hb4.size _).alloc (by have := hb4.size; simp; omega) _); have hx5 : W5.heap[w4.heap.size]? = some (.cells #[.int .i64 (n1 : Int), .int .i64 (b1 : Int), .int .u32 (x1 : Int)] 181 (0, 0)) := (by rw [← hW5]; exact (Below.heap_alloc _ _ _ (by simp)).trans (heap_alloc_new w4 _)); have hy5 : W5.heap[w4.heap.size + 1]? = some (.cells #[.int .i64 (n2 : Int), .int .i64 (b2 : Int), .int .u32 (x2 : Int)] 181 (0, 0)) := (by rw [← hW5]; have h := heap_alloc_new (w4.alloc (.cells #[.int .i64 (n1 : Int), .int .i64 (b1 : Int), .int .u32 (x1 : Int)] 181)) (.cells #[.int .i64 (n2 : Int), .int .i64 (b2 : Int), .int .u32 (x2 : Int)] 181); rw [World.size_alloc] at h; exact h); have hs4 : wr.heap.size ≤ w4.heap.size := hb4.size; have HW5 := Lib.hid hW5; clear hW5 hb4)
          rw [HW5.out]
          have HB5 := Lib.hid hb6
          have HN5 := Lib.hid (HNB1.out.below hb6 HNB1.out.lt)
          have HM5 := Lib.hid (HNB2.out.below hb6 HNB2.out.lt)
          have r0 : W5.cell? ⟨w4.heap.size, 0, none⟩ = some (.int .i64 (n1 : Int)) := cell_of_row _ _ 0 _ _ _ hx5
          have q1 : W5.cell? ⟨w.heap.size, n1, none⟩ = some (.int .i64 (a1 : Int)) := HN5.out.cell HA1.out
          have f1 : W5.frozen? ⟨w.heap.size, n1, none⟩ = false := HN5.out.free
          obtain ⟨W6, hW6⟩ : ∃ W6, W5.setCell ⟨w.heap.size, n1, none⟩ (.int .i64 ((a1 : Int) + 1)) = W6 := ⟨_, rfl⟩
          have hl1 : w.heap.size < wr.heap.size := HNB1.out.lt
          have hl2 : (w.heap.size + 1) < wr.heap.size := HNB2.out.lt
          have hx6 : W6.heap[w4.heap.size + 1]? = some (.cells #[.int .i64 (n2 : Int), .int .i64 (b2 : Int), .int .u32 (x2 : Int)] 181 (0, 0)) := (by rw [← hW6]; exact (Below.heap_setCell _ _ _ _ (by show w4.heap.size + 1 ≠ w.heap.size; omega)).trans hy5)
          have r3 : W6.cell? ⟨w4.heap.size + 1, 0, none⟩ = some (.int .i64 (n2 : Int)) := cell_of_row _ _ 0 _ _ _ hx6
          have HN6 : Hid (NB W6 w.heap.size (l1.set n1 (a1 + 1))) := (by show NB _ _ _; rw [← hW6]; have h := HN5.out.set n1 (a1 + 1); push_cast at h; exact h)
          have HM6 : Hid (NB W6 (w.heap.size + 1) l2) := (by show NB _ _ _; rw [← hW6]; exact (Below.heap_setCell _ _ _ _ (by show (w.heap.size + 1) ≠ w.heap.size; omega)).trans HM5.out)
          have q2 : W6.cell? ⟨(w.heap.size + 1), n2, none⟩ = some (.int .i64 (a2 : Int)) := HM6.out.cell HA2.out
          have f2 : W6.frozen? ⟨(w.heap.size + 1), n2, none⟩ = false := HM6.out.free
          have HB6 : Hid (Below w.heap.size w W6) := (by show Below _ _ _; rw [← hW6]; exact (HBEL.out.trans (HB5.out.mono HBEL.out.size)).setCell (by show w.heap.size ≤ w.heap.size; omega) _)
          clear hb6 hx5 hx6 hy5
          go_wp2
          go_roundg (gk - 1)
          case measure => omega
          case rel =>
            refine ⟨k + 1, false, by omega, by go_num, rfl, ?_, ?_, ?_, HB6.out.setCell (by show w.heap.size ≤ (w.heap.size + 1); omega) _⟩
            · rw [HMT.out, if_pos trivial]
              simp
            · rw [HU1.out]
              exact (Below.heap_setCell _ _ _ _ (by show w.heap.size ≠ (w.heap.size + 1); omega)).trans HN6.out
            · rw [HMT.out, if_pos trivial, HU2.out]
              have h := HM6.out.set n2 (a2 + 1)
              push_cast at h
              exact h
        | false =>
          go_upto_region 8 with (go_at_call 119; refine (HSP.out _).mono ?_; rintro e w4 ⟨rfl, hb4⟩; unfold agC; obtain ⟨W5, hW5⟩ : ∃ W5, (w4.alloc (.cells #[.int .i64 (n1 : Int), .int .i64 (b1 : Int), .int .u32 (x1 : Int)] 181)).alloc (.cells #[.int .i64 (n2 : Int), .int .i64 (b2 : Int), .int .u32 (x2 : Int)] 181) = W5 := ⟨_, rfl⟩; have hb6 : Below wr.heap.size wr W5 := (by rw [← hW5]; exact (hb4.alloc hb4.size _).alloc (by have := hb4.size; simp; omega) _); have hx5 : W5.heap[w4.heap.size]? = some (.cells #[.int .i64 (n1 : Int), .int .i64 (b1 : Int), .int .u32 (x1 : Int)] 181 (0, 0)) := (by rw [← hW5]; exact (Below.heap_alloc _ _ _ (by simp)).trans (heap_alloc_new w4 _)); have hy5 : W5.heap[w4.heap.size + 1]? = some (.cells #[.int .i64 (n2 : Int), .int .i64 (b2 : Int), .int .u32 (x2 : Int)] 181 (0, 0)) := (by rw [← hW5]; have h := heap_alloc_new (w4.alloc (.cells #[.int .i64 (n1 : Int), .int .i64 (b1 : Int), .int .u32 (x1 : Int)] 181)) (.cells #[.int .i64 (n2 : Int), .int .i64 (b2 : Int), .int .u32 (x2 : Int)] 181); rw [World.size_alloc] at h; exact h); have hs4 : wr.heap.size ≤ w4.heap.size := hb4.size; have HW5 := Lib.hid hW5; clear hW5 hb4)
          rw [HW5.out]
          have HB5 := Lib.hid hb6
          have HN5 := Lib.hid (HNB1.out.below hb6 HNB1.out.lt)
          have HM5 := Lib.hid (HNB2.out.below hb6 HNB2.out.lt)
          have r0 : W5.cell? ⟨w4.heap.size, 0, none⟩ = some (.int .i64 (n1 : Int)) := cell_of_row _ _ 0 _ _ _ hx5
          have q1 : W5.cell? ⟨w.heap.size, n1, none⟩ = some (.int .i64 (a1 : Int)) := HN5.out.cell HA1.out
          have f1 : W5.frozen? ⟨w.heap.size, n1, none⟩ = false := HN5.out.free
          obtain ⟨W6, hW6⟩ : ∃ W6, W5.setCell ⟨w.heap.size, n1, none⟩ (.int .i64 ((a1 : Int) + 1)) = W6 := ⟨_, rfl⟩
          have hl1 : w.heap.size < wr.heap.size := HNB1.out.lt
          have hl2 : (w.heap.size + 1) < wr.heap.size := HNB2.out.lt
          have hx6 : W6.heap[w4.heap.size + 1]? = some (.cells #[.int .i64 (n2 : Int), .int .i64 (b2 : Int), .int .u32 (x2 : Int)] 181 (0, 0)) := (by rw [← hW6]; exact (Below.heap_setCell _ _ _ _ (by show w4.heap.size + 1 ≠ w.heap.size; omega)).trans hy5)
          have r3 : W6.cell? ⟨w4.heap.size + 1, 0, none⟩ = some (.int .i64 (n2 : Int)) := cell_of_row _ _ 0 _ _ _ hx6
          have HN6 : Hid (NB W6 w.heap.size (l1.set n1 (a1 + 1))) := (by show NB _ _ _; rw [← hW6]; have h := HN5.out.set n1 (a1 + 1); push_cast at h; exact h)
          have HM6 : Hid (NB W6 (w.heap.size + 1) l2) := (by show NB _ _ _; rw [← hW6]; exact (Below.heap_setCell _ _ _ _ (by show (w.heap.size + 1) ≠ w.heap.size; omega)).trans HM5.out)
          have q2 : W6.cell? ⟨(w.heap.size + 1), n2, none⟩ = some (.int .i64 (a2 : Int)) := HM6.out.cell HA2.out
          have f2 : W6.frozen? ⟨(w.heap.size + 1), n2, none⟩ = false := HM6.out.free
          have HB6 : Hid (Below w.heap.size w W6) := (by show Below _ _ _; rw [← hW6]; exact (HBEL.out.trans (HB5.out.mono HBEL.out.size)).setCell (by show w.heap.size ≤ w.heap.size; omega) _)
          clear hb6 hx5 hx6 hy5
          go_wp2
          go_roundg (gk - 1)
          case measure => omega
          case rel =>
            refine ⟨k + 1, b6, by omega, by go_num, rfl, ?_, ?_, ?_, HB6.out⟩
            · rw [HMT.out, if_neg (by simp)]
              exact HB6E.out
            · rw [HU1.out]
              exact HN6.out
            · rw [HMT.out, if_neg (by simp), HL2.out]
              exact HM6.out
      · obtain rfl : k = l := by omega
        rw [show ts.take k = ts from List.take_of_length_le (by rw [HL.out]; exact Nat.le_refl _)] at HNB1 HNB2 HB6E
        rw [wt1_ref] at HNB1
        have hl1 : w.heap.size < wr.heap.size := HNB1.out.lt
        have hl2 : (w.heap.size + 1) < wr.heap.size := HNB2.out.lt
        cases b6 with
        | true =>
          have hnil : mts ts = [] := HB6E.out.1 rfl
          have hq0 : (incW (List.replicate 30 0) (mts ts))[0]? = some 0 := by rw [incW_at 30 _ (by decide), hnil]; rfl
          have q2 : wr.cell? ⟨(w.heap.size + 1), 0, none⟩ = some (.int .i64 ((0 : Nat) : Int)) := HNB2.out.cell hq0
          have f2 : wr.frozen? ⟨(w.heap.size + 1), 0, none⟩ = false := HNB2.out.free
          have HW2 : Hid (wt2 ts = (incW (List.replicate 30 0) (mts ts)).set 0 1) := by
            show _ = _
            rw [wt2, if_pos hnil, hnil]
            rfl
          clear hq0 hnil
          go_wp2
          refine bodyPost_ret (results_tmp2 rfl _ _ _) rfl ⟨HBEL.out.setCell (by show w.heap.size ≤ (w.heap.size + 1); omega) _, w.heap.size, (w.heap.size + 1), rfl, (Below.heap_setCell _ _ _ _ (by show w.heap.size ≠ (w.heap.size + 1); omega)).trans HNB1.out, by rw [HW2.out]; exact HNB2.out.set 0 1, by omega, by omega⟩
        | false =>
          have HW2 : Hid (wt2 ts = incW (List.replicate 30 0) (mts ts)) := by
            show _ = _
            rw [wt2, if_neg (fun e => by have := HB6E.out.2 e; cases this)]
          go_wp2
          refine bodyPost_ret (results_tmp2 rfl _ _ _) rfl ⟨HBEL.out, w.heap.size, (w.heap.size + 1), rfl, HNB1.out, by rw [HW2.out]; exact HNB2.out, by omega, by omega⟩
  · have HZ1 : Hid (NB (((w.alloc (.cells (madeCells #[.int .i64 0] 30) 3)).alloc (.cells (madeCells #[.int .i64 0] 273) 3)).drew) (w.heap.size + 1) (List.replicate 273 0)) := (by have h := wei_made (w.alloc (.cells (madeCells #[.int .i64 0] 30) 3)) 273; rw [World.size_alloc] at h; exact h)
    have HZ2 : Hid (NB (((w.alloc (.cells (madeCells #[.int .i64 0] 30) 3)).alloc (.cells (madeCells #[.int .i64 0] 273) 3)).drew) w.heap.size (List.replicate 30 0)) := ((wei_made w 30).below (B := (w.alloc (.cells (madeCells #[.int .i64 0] 30) 3)).heap.size) (((Below.refl _ _).alloc (Nat.le_refl _) _).drew) (by simp))
    have HB0 : Hid (Below w.heap.size w (((w.alloc (.cells (madeCells #[.int .i64 0] 30) 3)).alloc (.cells (madeCells #[.int .i64 0] 273) 3)).drew)) := (((Below.refl w.heap.size w).alloc (Nat.le_refl _) _).alloc (by simp) _).drew
    obtain ⟨W0, hW0⟩ : ∃ W0, ((w.alloc (.cells (madeCells #[.int .i64 0] 30) 3)).alloc (.cells (madeCells #[.int .i64 0] 273) 3)).drew = W0 := ⟨_, rfl⟩
    rw [hW0] at HZ1 HZ2 HB0 ⊢
    clear hW0 mk1 mk2
    have f0 : W0.frozen? ⟨(w.heap.size + 1), 256, none⟩ = false := HZ1.out.free
    have q0 : W0.cell? ⟨(w.heap.size + 1), 256, none⟩ = some (.int .i64 ((0 : Nat) : Int)) := HZ1.out.cell (by simp)
    obtain ⟨V0, hV0⟩ : ∃ V0, W0.setCell ⟨(w.heap.size + 1), 256, none⟩ (.int .i64 1) = V0 := ⟨_, rfl⟩
    have HS1 : Hid (NB V0 (w.heap.size + 1) (incW (List.replicate 273 0) (256 :: fsts (ts.take 0)))) := by
      show NB _ _ _
      rw [← hV0]
      exact HZ1.out.set 256 1
    have HS2 : Hid (NB V0 w.heap.size (incW (List.replicate 30 0) (mts (ts.take 0)))) := by
      show NB _ _ _
      rw [← hV0]
      exact (Below.heap_setCell _ _ _ _ (by show w.heap.size ≠ (w.heap.size + 1); omega)).trans HZ2.out
    have HSB : Hid (Below w.heap.size w V0) := by show Below _ _ _; rw [← hV0]; exact HB0.out.setCell (by show w.heap.size ≤ (w.heap.size + 1); omega) _
    have HV0 := Lib.hid hV0
    clear hV0
    go_upto_block 3 with fail
    rw [HV0.out]
    clear HV0 HZ1 HZ2 HB0 f0 q0
    go_wp2
    go_loopg [6, 7] l (fun gk s6 i wr => ∃ (k : Nat) (b6 : Bool), k + gk = l ∧ i = .int .i64 (k : Int) ∧ s6 = .bool b6 ∧ (b6 = true ↔ mts (ts.take k) = []) ∧ NB wr (w.heap.size + 1) (incW (List.replicate 273 0) (256 :: fsts (ts.take k))) ∧ NB wr w.heap.size (incW (List.replicate 30 0) (mts (ts.take k))) ∧ Below w.heap.size w wr)
    case atStart => exact ⟨0, true, by omega, rfl, rfl, by simp [mts], HS1.out, HS2.out, HSB.out⟩
    case round =>
      obtain ⟨k, b6, hkg, rfl, rfl, hb6, hn1, hn2, hbel⟩ := hrel
      have HNB1 := Lib.hid hn1
      have HNB2 := Lib.hid hn2
      have HBEL := Lib.hid hbel
      have HB6E := Lib.hid hb6
      clear hn1 hn2 hbel hb6 HS1 HS2 HSB
      have hml := mts_len (ts.take k)
      rw [List.length_take] at hml
      by_cases hkl : k < l
      · obtain ⟨t, ht⟩ : ∃ t, ts[k]? = some t := ⟨_, List.getElem?_eq_getElem (by rw [HL.out]; exact hkl)⟩
        have hok := HK.out t (List.mem_of_getElem? ht)
        have HSP := Lib.hid (fun W => rsplitT_any t W hok)
        have hc1 := cls1_lt hok
        have hc2 := cls2_lt hok
        have HTK : Hid (ts.take (k + 1) = ts.take k ++ [t]) := by show _ = _; rw [List.take_add_one, ht]; rfl
        have HF : Hid (256 :: fsts (ts.take (k + 1)) = (256 :: fsts (ts.take k)) ++ [(cls1 t).1]) := by show _ = _; rw [HTK.out, fsts_snoc]; rfl
        have HMT : Hid (mts (ts.take (k + 1)) = if isM t then mts (ts.take k) ++ [(cls2 t).1] else mts (ts.take k)) := by show _ = _; rw [HTK.out, mts_snoc]
        obtain ⟨b, o, rfl, hbB, v0, v1, v2⟩ := (HC.out k t ht).below HBEL.out
        have HA1 : Hid ((incW (List.replicate 273 0) (256 :: fsts (ts.take k)))[(cls1 t).1]? = some ((256 :: fsts (ts.take k)).count (cls1 t).1)) := incW_at 273 _ hc1.1
        have HA2 : Hid ((incW (List.replicate 30 0) (mts (ts.take k)))[(cls2 t).1]? = some ((mts (ts.take k)).count (cls2 t).1)) := incW_at 30 _ hc2.1
        have HU1 : Hid (incW (List.replicate 273 0) (256 :: fsts (ts.take (k + 1))) = (incW (List.replicate 273 0) (256 :: fsts (ts.take k))).set (cls1 t).1 ((256 :: fsts (ts.take k)).count (cls1 t).1 + 1)) := by
          show _ = _
          rw [HF.out, incW_append, incW_cons (incW (List.replicate 273 0) (256 :: fsts (ts.take k))), List.getD, HA1.out]
          rfl
        have HU2 : Hid (incW (List.replicate 30 0) (mts (ts.take k) ++ [(cls2 t).1]) = (incW (List.replicate 30 0) (mts (ts.take k))).set (cls2 t).1 ((mts (ts.take k)).count (cls2 t).1 + 1)) := by
          show _ = _
          rw [incW_append, incW_cons, List.getD, HA2.out]
          rfl
        have hcn1 : (256 :: fsts (ts.take k)).count (cls1 t).1 ≤ 65537 := by
          have h := List.count_le_length (a := (cls1 t).1) (l := 256 :: fsts (ts.take k))
          rw [List.length_cons, fsts_len, List.length_take] at h
          omega
        have hcn2 : (mts (ts.take k)).count (cls2 t).1 ≤ 65536 := by
          have h := List.count_le_length (a := (cls2 t).1) (l := mts (ts.take k))
          omega
        obtain ⟨l1, hl1⟩ : ∃ l1, incW (List.replicate 273 0) (256 :: fsts (ts.take k)) = l1 := ⟨_, rfl⟩
        obtain ⟨l2, hl2⟩ : ∃ l2, incW (List.replicate 30 0) (mts (ts.take k)) = l2 := ⟨_, rfl⟩
        have HL2 := Lib.hid hl2
        rw [hl1] at HNB1 HA1 HU1
        rw [hl2] at HNB2 HA2 HU2
        obtain ⟨a1, ha1⟩ : ∃ a1, (256 :: fsts (ts.take k)).count (cls1 t).1 = a1 := ⟨_, rfl⟩
        obtain ⟨a2, ha2⟩ : ∃ a2, (mts (ts.take k)).count (cls2 t).1 = a2 := ⟨_, rfl⟩
        rw [ha1] at HA1 HU1 hcn1
        rw [ha2] at HA2 HU2 hcn2
        obtain ⟨⟨n1, b1, x1⟩, hq1⟩ : ∃ q, cls1 t = q := ⟨_, rfl⟩
        obtain ⟨⟨n2, b2, x2⟩, hq2⟩ : ∃ q, cls2 t = q := ⟨_, rfl⟩
        rw [hq1] at HSP HA1 HU1 hc1
        rw [hq2] at HSP HA2 HU2 hc2 HMT
        obtain ⟨m, hmm⟩ : ∃ m, isM t = m := ⟨_, rfl⟩
        rw [hmm] at HSP HMT
        dsimp only at HSP HA1 HU1 HA2 HU2 HMT hc1 hc2
        have hn273 := hc1.1
        have hn30 := hc2.1
        clear ht hok hl1 hl2 ha1 ha2 hq1 hq2 hmm hc1 hc2 hml
        cases m with
        | true =>
          go_upto_region 8 with (go_at_call 119; refine (HSP.out _).mono ?_; rintro e w4 ⟨rfl, hb4⟩; unfold agC; obtain ⟨W5, hW5⟩ : ∃ W5, (w4.alloc (.cells #[.int .i64 (n1 : Int), .int .i64 (b1 : Int), .int .u32 (x1 : Int)] 181)).alloc (.cells #[.int .i64 (n2 : Int), .int .i64 (b2 : Int), .int .u32 (x2 : Int)] 181) = W5 := ⟨_, rfl⟩; have hb6 : Below wr.heap.size wr W5 := (by rw [← hW5]; exact (hb4.alloc hb4.size _).alloc (by have := hb4.size; simp; omega) _); have hx5 : W5.heap[w4.heap.size]? = some (.cells #[.int .i64 (n1 : Int), .int .i64 (b1 : Int), .int .u32 (x1 : Int)] 181 (0, 0)) := (by rw [← hW5]; exact (Below.heap_alloc _ _ _ (by simp)).trans (heap_alloc_new w4 _)); have hy5 : W5.heap[w4.heap.size + 1]? = some (.cells #[.int .i64 (n2 : Int), .int .i64 (b2 : Int), .int .u32 (x2 : Int)] 181 (0, 0)) := (by rw [← hW5]; have h := heap_alloc_new (w4.alloc (.cells #[.int .i64 (n1 : Int), .int .i64 (b1 : Int), .int .u32 (x1 : Int)] 181)) (.cells #[.int .i64 (n2 : Int), .int .i64 (b2 : Int), .int .u32 (x2 : Int)] 181); rw [World.size_alloc] at h; exact h); have hs4 : wr.heap.size ≤ w4.heap.size := hb4.size; have HW5 := Lib.hid hW5; clear hW5 hb4)
          rw [HW5.out]
          have HB5 := Lib.hid hb6
          have HN5 := Lib.hid (HNB1.out.below hb6 HNB1.out.lt)
          have HM5 := Lib.hid (HNB2.out.below hb6 HNB2.out.lt)
          have r0 : W5.cell? ⟨w4.heap.size, 0, none⟩ = some (.int .i64 (n1 : Int)) := cell_of_row _ _ 0 _ _ _ hx5
          have q1 : W5.cell? ⟨(w.heap.size + 1), n1, none⟩ = some (.int .i64 (a1 : Int)) := HN5.out.cell HA1.out
          have f1 : W5.frozen? ⟨(w.heap.size + 1), n1, none⟩ = false := HN5.out.free
          obtain ⟨W6, hW6⟩ : ∃ W6, W5.setCell ⟨(w.heap.size + 1), n1, none⟩ (.int .i64 ((a1 : Int) + 1)) = W6 := ⟨_, rfl⟩
          have hl1 : (w.heap.size + 1) < wr.heap.size := HNB1.out.lt
          have hl2 : w.heap.size < wr.heap.size := HNB2.out.lt
          have hx6 : W6.heap[w4.heap.size + 1]? = some (.cells #[.int .i64 (n2 : Int), .int .i64 (b2 : Int), .int .u32 (x2 : Int)] 181 (0, 0)) := (by rw [← hW6]; exact (Below.heap_setCell _ _ _ _ (by show w4.heap.size + 1 ≠ (w.heap.size + 1); omega)).trans hy5)
          have r3 : W6.cell? ⟨w4.heap.size + 1, 0, none⟩ = some (.int .i64 (n2 : Int)) := cell_of_row _ _ 0 _ _ _ hx6
          have HN6 : Hid (NB W6 (w.heap.size + 1) (l1.set n1 (a1 + 1))) := (by show NB _ _ _; rw [← hW6]; have h := HN5.out.set n1 (a1 + 1); push_cast at h; exact h)
          have HM6 : Hid (NB W6 w.heap.size l2) := (by show NB _ _ _; rw [← hW6]; exact (Below.heap_setCell _ _ _ _ (by show w.heap.size ≠ (w.heap.size + 1); omega)).trans HM5.out)
          have q2 : W6.cell? ⟨w.heap.size, n2, none⟩ = some (.int .i64 (a2 : Int)) := HM6.out.cell HA2.out
          have f2 : W6.frozen? ⟨w.heap.size, n2, none⟩ = false := HM6.out.free
          have HB6 : Hid (Below w.heap.size w W6) := (by show Below _ _ _; rw [← hW6]; exact (HBEL.out.trans (HB5.out.mono HBEL.out.size)).setCell (by show w.heap.size ≤ (w.heap.size + 1); omega) _)
          clear hb6 hx5 hx6 hy5
          go_wp2
          go_roundg (gk - 1)
          case measure => omega
          case rel =>
            refine ⟨k + 1, false, by omega, by go_num, rfl, ?_, ?_, ?_, HB6.out.setCell (by show w.heap.size ≤ w.heap.size; omega) _⟩
            · rw [HMT.out, if_pos trivial]
              simp
            · rw [HU1.out]
              exact (Below.heap_setCell _ _ _ _ (by show (w.heap.size + 1) ≠ w.heap.size; omega)).trans HN6.out
            · rw [HMT.out, if_pos trivial, HU2.out]
              have h := HM6.out.set n2 (a2 + 1)
              push_cast at h
              exact h
        | false =>
          go_upto_region 8 with (go_at_call 119; refine (HSP.out _).mono ?_; rintro e w4 ⟨rfl, hb4⟩; unfold agC; obtain ⟨W5, hW5⟩ : ∃ W5, (w4.alloc (.cells #[.int .i64 (n1 : Int), .int .i64 (b1 : Int), .int .u32 (x1 : Int)] 181)).alloc (.cells #[.int .i64 (n2 : Int), .int .i64 (b2 : Int), .int .u32 (x2 : Int)] 181) = W5 := ⟨_, rfl⟩; have hb6 : Below wr.heap.size wr W5 := (by rw [← hW5]; exact (hb4.alloc hb4.size _).alloc (by have := hb4.size; simp; omega) _); have hx5 : W5.heap[w4.heap.size]? = some (.cells #[.int .i64 (n1 : Int), .int .i64 (b1 : Int), .int .u32 (x1 : Int)] 181 (0, 0)) := (by rw [← hW5]; exact (Below.heap_alloc _ _ _ (by simp)).trans (heap_alloc_new w4 _)); have hy5 : W5.heap[w4.heap.size + 1]? = some (.cells #[.int .i64 (n2 : Int), .int .i64 (b2 : Int), .int .u32 (x2 : Int)] 181 (0, 0)) := (by rw [← hW5]; have h := heap_alloc_new (w4.alloc (.cells #[.int .i64 (n1 : Int), .int .i64 (b1 : Int), .int .u32 (x1 : Int)] 181)) (.cells #[.int .i64 (n2 : Int), .int .i64 (b2 : Int), .int .u32 (x2 : Int)] 181); rw [World.size_alloc] at h; exact h); have hs4 : wr.heap.size ≤ w4.heap.size := hb4.size; have HW5 := Lib.hid hW5; clear hW5 hb4)
          rw [HW5.out]
          have HB5 := Lib.hid hb6
          have HN5 := Lib.hid (HNB1.out.below hb6 HNB1.out.lt)
          have HM5 := Lib.hid (HNB2.out.below hb6 HNB2.out.lt)
          have r0 : W5.cell? ⟨w4.heap.size, 0, none⟩ = some (.int .i64 (n1 : Int)) := cell_of_row _ _ 0 _ _ _ hx5
          have q1 : W5.cell? ⟨(w.heap.size + 1), n1, none⟩ = some (.int .i64 (a1 : Int)) := HN5.out.cell HA1.out
          have f1 : W5.frozen? ⟨(w.heap.size + 1), n1, none⟩ = false := HN5.out.free
          obtain ⟨W6, hW6⟩ : ∃ W6, W5.setCell ⟨(w.heap.size + 1), n1, none⟩ (.int .i64 ((a1 : Int) + 1)) = W6 := ⟨_, rfl⟩
          have hl1 : (w.heap.size + 1) < wr.heap.size := HNB1.out.lt
          have hl2 : w.heap.size < wr.heap.size := HNB2.out.lt
          have hx6 : W6.heap[w4.heap.size + 1]? = some (.cells #[.int .i64 (n2 : Int), .int .i64 (b2 : Int), .int .u32 (x2 : Int)] 181 (0, 0)) := (by rw [← hW6]; exact (Below.heap_setCell _ _ _ _ (by show w4.heap.size + 1 ≠ (w.heap.size + 1); omega)).trans hy5)
          have r3 : W6.cell? ⟨w4.heap.size + 1, 0, none⟩ = some (.int .i64 (n2 : Int)) := cell_of_row _ _ 0 _ _ _ hx6
          have HN6 : Hid (NB W6 (w.heap.size + 1) (l1.set n1 (a1 + 1))) := (by show NB _ _ _; rw [← hW6]; have h := HN5.out.set n1 (a1 + 1); push_cast at h; exact h)
          have HM6 : Hid (NB W6 w.heap.size l2) := (by show NB _ _ _; rw [← hW6]; exact (Below.heap_setCell _ _ _ _ (by show w.heap.size ≠ (w.heap.size + 1); omega)).trans HM5.out)
          have q2 : W6.cell? ⟨w.heap.size, n2, none⟩ = some (.int .i64 (a2 : Int)) := HM6.out.cell HA2.out
          have f2 : W6.frozen? ⟨w.heap.size, n2, none⟩ = false := HM6.out.free
          have HB6 : Hid (Below w.heap.size w W6) := (by show Below _ _ _; rw [← hW6]; exact (HBEL.out.trans (HB5.out.mono HBEL.out.size)).setCell (by show w.heap.size ≤ (w.heap.size + 1); omega) _)
          clear hb6 hx5 hx6 hy5
          go_wp2
          go_roundg (gk - 1)
          case measure => omega
          case rel =>
            refine ⟨k + 1, b6, by omega, by go_num, rfl, ?_, ?_, ?_, HB6.out⟩
            · rw [HMT.out, if_neg (by simp)]
              exact HB6E.out
            · rw [HU1.out]
              exact HN6.out
            · rw [HMT.out, if_neg (by simp), HL2.out]
              exact HM6.out
      · obtain rfl : k = l := by omega
        rw [show ts.take k = ts from List.take_of_length_le (by rw [HL.out]; exact Nat.le_refl _)] at HNB1 HNB2 HB6E
        rw [wt1_ref] at HNB1
        have hl1 : (w.heap.size + 1) < wr.heap.size := HNB1.out.lt
        have hl2 : w.heap.size < wr.heap.size := HNB2.out.lt
        cases b6 with
        | true =>
          have hnil : mts ts = [] := HB6E.out.1 rfl
          have hq0 : (incW (List.replicate 30 0) (mts ts))[0]? = some 0 := by rw [incW_at 30 _ (by decide), hnil]; rfl
          have q2 : wr.cell? ⟨w.heap.size, 0, none⟩ = some (.int .i64 ((0 : Nat) : Int)) := HNB2.out.cell hq0
          have f2 : wr.frozen? ⟨w.heap.size, 0, none⟩ = false := HNB2.out.free
          have HW2 : Hid (wt2 ts = (incW (List.replicate 30 0) (mts ts)).set 0 1) := by
            show _ = _
            rw [wt2, if_pos hnil, hnil]
            rfl
          clear hq0 hnil
          go_wp2
          refine bodyPost_ret (results_tmp2 rfl _ _ _) rfl ⟨HBEL.out.setCell (by show w.heap.size ≤ w.heap.size; omega) _, (w.heap.size + 1), w.heap.size, rfl, (Below.heap_setCell _ _ _ _ (by show (w.heap.size + 1) ≠ w.heap.size; omega)).trans HNB1.out, by rw [HW2.out]; exact HNB2.out.set 0 1, by omega, by omega⟩
        | false =>
          have HW2 : Hid (wt2 ts = incW (List.replicate 30 0) (mts ts)) := by
            show _ = _
            rw [wt2, if_neg (fun e => by have := HB6E.out.2 e; cases this)]
          go_wp2
          refine bodyPost_ret (results_tmp2 rfl _ _ _) rfl ⟨HBEL.out, (w.heap.size + 1), w.heap.size, rfl, HNB1.out, by rw [HW2.out]; exact HNB2.out, by omega, by omega⟩
end Go.Proofs.YtaknladkodibaaaGreatDoor
/- Layer 13: tokens that come in: those that may be, up to the first one that may not. -/
namespace Go.Proofs.YtaknladkodibaaaGreatDoor
open Go.RowKit BitsP SymP

/-- The tokens ahead of the first one that may not be. -/
def ToksOf (w : World) (A : Option Addr) (l : Nat) (ts : List Tk) : Prop :=
  (∀ t ∈ ts, okT t) ∧ (∀ k t, ts[k]? = some t → TkAt w A k (t.1.toNat : Int) (t.2.1 : Int) (t.2.2 : Int)) ∧ (ts.length = l ∨ (ts.length < l ∧ ∃ y ln d, TkAt w A ts.length y ln d ∧ rightT y ln d = false))
theorem ToksOf.below {w W : World} {A : Option Addr} {l : Nat} {ts : List Tk} (h : ToksOf w A l ts) (hb : Below w.heap.size w W) : ToksOf W A l ts :=
  ⟨h.1, fun k t ht => (h.2.1 k t ht).below hb, h.2.2.imp id fun ⟨h1, y, ln, d, h2, h3⟩ => ⟨h1, y, ln, d, h2.below hb, h3⟩⟩
section
variable {A : Option Addr} {l c : Nat} {ts : List Tk} {w : World}
end
end Go.Proofs.YtaknladkodibaaaGreatDoor
/- Layer 13: a class is taken. -/
namespace Go.Proofs.YtaknladkodibaaaGreatDoor
open Go.RowKit BitsP SymP

end Go.Proofs.YtaknladkodibaaaGreatDoor
/- Layer 13: both tables are taken. -/
namespace Go.Proofs.YtaknladkodibaaaGreatDoor
open Go.RowKit BitsP SymP

/-- Two alphabets' cells. -/
def alC (a : Value) (n : Int) (b : Value) (m : Int) : Array Value := #[a, .int .i64 n, b, .int .i64 m]
end Go.Proofs.YtaknladkodibaaaGreatDoor
/- Layer 13: tokens are taken. -/
namespace Go.Proofs.YtaknladkodibaaaGreatDoor
open Go.RowKit BitsP SymP

/-- A token's cells. -/
def tcC (t : Tk) : List Value := [.int .u8 (t.1.toNat : Int), .int .i64 (t.2.1 : Int), .int .i64 (t.2.2 : Int)]
/-- What the loop keeps: the tokens, the reader, the alphabets. -/
structure TsI (w W : World) (r base : Nat) (S : Nat → Prop) (bs : List UInt8) (p ga gb : Nat) (v : Value) (ts : List Tk) : Prop where
  row : W.ownsRow (w.heap.size + 1) 164 3 v ts.length (ts.flatMap tcC)
  rd : RdS W r base S bs p
  mod : Mod (oneB r) w W
  box : W.heap[w.heap.size]? = some (.cells (alC (.pointer (some ⟨ga, 0, none⟩)) 257 (.pointer (some ⟨gb, 0, none⟩)) 0) 251 (0, 0))
section
variable {w W W' : World} {r base p p' ga gb : Nat} {S : Nat → Prop} {bs : List UInt8} {v v' : Value} {ts ts' : List Tk}
theorem TsI.part (h : TsI w W r base S bs p ga gb v ts) (hr : r < w.heap.size) (hm : Mod (oneB r) W W') (hrd : RdS W' r base S bs p') : TsI w W' r base S bs p' ga gb v ts :=
  ⟨own_keep h.row hm (fun k hk hs => by have h2 : k = r := hs; have := own_base h.row k hk; omega), hrd, h.mod.then_ hm, hm.keep h.box (fun hs => by have h2 : w.heap.size = r := hs; omega)⟩
theorem TsI.below (h : TsI w W r base S bs p ga gb v ts) (hb : Below W.heap.size W W') : TsI w W' r base S bs p ga gb v ts :=
  ⟨own_keep h.row (Mod.of_below hb) (fun _ _ h => h), h.rd.keep (Mod.of_below hb) (fun _ _ h => h), h.mod.then_ ((Mod.of_below hb).mono fun _ h => h.elim), (hb.block _ (Array.getElem?_eq_some_iff.1 h.box).1).trans h.box⟩
/-- A block that is none of these changes. -/
theorem TsI.other {g : Nat} (h : TsI w W r base S bs p ga gb v ts) (hSL : ∀ k, S k → k < w.heap.size) (hg : w.heap.size < g) (hv : v.ownBlock ≠ some g) (hm : Mod (oneB g) W W') : TsI w W' r base S bs p ga gb v ts :=
  ⟨own_keep h.row hm (fun k hk hs => by have h2 : k = g := hs; exact hv (h2 ▸ hk)), h.rd.keep hm (fun k hk hs => by have h2 : k = g := hs; have := hSL k hk; omega), h.mod.trans hm (fun k hs => .inr (by have h2 : k = g := hs; omega)), hm.keep h.box (fun hs => by have h2 : w.heap.size = g := hs; omega)⟩
theorem TsI.app {m : Nat} {xs : List Value} (h : TsI w W r base S bs p ga gb v ts) (hSL : ∀ k, S k → k < w.heap.size) (ha : App W (w.heap.size + 1) 164 3 v m xs W' v') (hm : m = ts'.length) (hx : xs = ts'.flatMap tcC) : TsI w W' r base S bs p ga gb v' ts' := by
  subst hm hx
  exact ⟨ha.own, h.rd.keep (Mod.of_app ha) (fun k hk hs => by have := hSL k hk; have := own_base h.row k hs; omega), h.mod.trans (Mod.of_app ha) (fun k hk => .inr (by have := own_base h.row k hk; omega)), (Mod.of_app ha).keep h.box (fun hk => by have := own_base h.row _ hk; omega)⟩
end
/-- A row in memory. -/
def RowB (W : World) (R : Nat) (c1 c2 : Nat × Nat × Nat) (m : Bool) : Prop := W.heap[R]? = some (.cells #[.int .i64 (c1.1 : Int), .int .i64 (c1.2.1 : Int), .int .u32 (c1.2.2 : Int), .int .i64 (c2.1 : Int), .int .i64 (c2.2.1 : Int), .int .u32 (c2.2.2 : Int), .bool m] 168 (0, 0))
theorem RowB.first {W : World} {R : Nat} {c1 c2 : Nat × Nat × Nat} {m : Bool} (h : RowB W R c1 c2 m) (c : Nat × Nat × Nat) : RowB (((W.setCell ⟨R, 0, none⟩ (.int .i64 (c.1 : Int))).setCell ⟨R, 1, none⟩ (.int .i64 (c.2.1 : Int))).setCell ⟨R, 2, none⟩ (.int .u32 (c.2.2 : Int))) R c c2 m :=
  heap_setCell_same _ R 2 _ _ _ (heap_setCell_same _ R 1 _ _ _ (heap_setCell_same W R 0 _ _ _ h))
theorem RowB.second {W : World} {R : Nat} {c1 c2 : Nat × Nat × Nat} {m : Bool} (h : RowB W R c1 c2 m) (c : Nat × Nat × Nat) : RowB (((W.setCell ⟨R, 3, none⟩ (.int .i64 (c.1 : Int))).setCell ⟨R, 4, none⟩ (.int .i64 (c.2.1 : Int))).setCell ⟨R, 5, none⟩ (.int .u32 (c.2.2 : Int))) R c1 c m :=
  heap_setCell_same _ R 5 _ _ _ (heap_setCell_same _ R 4 _ _ _ (heap_setCell_same W R 3 _ _ _ h))
end Go.Proofs.YtaknladkodibaaaGreatDoor
/- Layer 13: tokens of bytes in memory; a fresh writer. -/
namespace Go.Proofs.YtaknladkodibaaaGreatDoor
open Go.RowKit BitsP SymP

theorem toksOf_tk {w : World} {A : Option Addr} {ts : List Tk} (h : ∀ t ∈ ts, okT t) (hc : Cells w w.heap.size A (ts.map tkC).flatten) : ToksOf w A ts.length ts := by
  refine ⟨h, fun k t ht => ?_, .inl rfl⟩
  have c0 := code_at (tkC_len ts) (j := 0) ht rfl
  have c1 := code_at (tkC_len ts) (j := 1) ht rfl
  have c2 := code_at (tkC_len ts) (j := 2) ht rfl
  obtain ⟨b, o, h1, h2, h3⟩ := hc (by have := (List.getElem?_eq_some_iff.1 c0).1; omega)
  exact ⟨b, o, h1, h2, h3 _ _ c0, by have h4 := h3 _ _ c1; rw [← Nat.add_assoc] at h4; exact h4, by have h4 := h3 _ _ c2; rw [← Nat.add_assoc] at h4; exact h4⟩
end Go.Proofs.YtaknladkodibaaaGreatDoor
/- Layer 9: the reference's Put. -/
namespace Go.Proofs.YtaknladkodibaaaGreatDoor
open Go.RowKit BitsP
attribute [local go_sem ↓] Go.wp_at_zero Go.wp_at_succ

theorem NB.cellsN {w : World} {g : Nat} {ns : List Nat} (h : NB w g ns) : Cells w w.heap.size (some ⟨g, 0, none⟩) (nCs ns) := fun _ =>
  ⟨g, 0, rfl, h.lt, fun j u hu => by
    rw [Nat.zero_add, cell_of_row w g j _ _ _ h, ← Array.getElem?_toList]
    exact hu⟩
theorem own_leP {w : World} {base base' : Nat} {e : TypeId} {size n : Nat} {v : Value} {xs : List Value} (h : w.ownsRow base e size v n xs) (hb : base' ≤ base) : w.ownsRow base' e size v n xs := by
  obtain ⟨h1, h2⟩ := h
  refine ⟨h1, ?_⟩
  rcases h2 with h2 | ⟨g, c, cur, hv, hg, h3⟩
  · exact .inl h2
  · exact .inr ⟨g, c, cur, hv, Nat.le_trans hb hg, h3⟩
theorem partsB_up {zs : List Int} {ps : List (Nat × Nat)} {k : Nat} {t : Nat × Nat} (h : ps[k]? = some t) : partsB zs (ps.take (k + 1)) = partsB zs (ps.take k) ++ partB zs t := by
  rw [List.take_add_one, h, ← partsB_snoc]
  rfl
set_option maxRecDepth 100000 in
set_option maxHeartbeats 4000000 in
theorem rput9_any (A : Option Addr) (l c : Nat) (ls : List Nat) (w : World) (hl : ls.length = l) (h1l : 1 ≤ l) (hm : l ≤ 320) (hv : ∀ x ∈ ls, x ≤ 15) (hb : Cells w w.heap.size A (nCs ls)) :
    Calls Tryz.prog 118 #[.slice A l c] w fun e w' => ∃ A' c', e = .returned (.slice A' (tabP ls).length c') ∧ OwnB w' w.heap.size 5 (.slice A' (tabP ls).length c') (tabP ls).length (bitBytes (tabP ls)) ∧ Below w.heap.size w w' := by
  have HRP := Lib.hid (rparts_any A l c ls w.heap.size w hl (by omega) hv hb (Nat.le_refl _))
  have hfew := parts_few ls
  have HALL : Hid (∀ t ∈ partsP ls 0, t.1 < 19 ∧ (spanP t.1).1 ≤ t.2 ∧ t.2 ≤ ls.length ∧ t.2 - (spanP t.1).1 < 2 ^ (spanP t.1).2) := fun t ht => part_bd hv ht
  have HRT : Hid (caR (zN (lnP (partsP ls 0))) = true) := by
    obtain ⟨t, ht⟩ := partsP_ne (ls := ls) (by omega)
    exact lnP_right ht (partsP_all hv t ht)
  obtain ⟨ps, hps⟩ : ∃ ps, partsP ls 0 = ps := ⟨_, rfl⟩
  have HT : Hid (tabP ls = bitsOf l 9 ++ lensB (lnP ps) ++ partsB (zN (lnP ps)) ps) := by show _ = _; rw [tabP, hps, hl]
  rw [hps] at HRP HALL HRT hfew
  obtain ⟨n, hn⟩ : ∃ n, ps.length = n := ⟨_, rfl⟩
  have HN := Lib.hid hn
  rw [hn] at HRP
  have hn320 : n ≤ 320 := by omega
  rw [HT.out]
  clear hps hl hv hb hn hfew
  have mk0 : ∀ W, (Instr.makeSlice 156 (.int .i64 19) (.int .i64 19)).run Tryz.prog W = .ok (.slice (some ⟨W.heap.size, 0, none⟩) 19 19) (W.alloc (.cells (madeCells #[.int .i64 0] 19) 3)) := fun W => make_ints 19 (by omega) W
  go_enter Tryz.func118, Tryz.ntmps118
  go_wp2_with (go_at_call 165; refine HRP.out.mono ?_; rintro e w1 ⟨Ap, cp, rfl, hrow, hb1⟩; have HC1 := Lib.hid (cells_of_ownP hrow); have HB1 := Lib.hid hb1; clear hrow hb1)
  obtain ⟨W2, hW2⟩ : ∃ W2, w1.alloc (.cells (madeCells #[.int .i64 0] 19) 3) = W2 := ⟨_, rfl⟩
  have HN2 : Hid (NB W2 w1.heap.size (oftP (ps.take 0))) := by show NB _ _ _; rw [← hW2]; exact wei_made w1 19
  have HB2 : Hid (Below w1.heap.size w1 W2) := by show Below _ _ _; rw [← hW2]; exact (Below.refl _ _).alloc (Nat.le_refl _) _
  rw [hW2]
  clear hW2
  have HCP : Hid (∀ W k t, Below w1.heap.size w1 W → ps[k]? = some t → ∃ b o, Ap = some ⟨b, o, none⟩ ∧ b < w1.heap.size ∧ W.cell? ⟨b, o + k * 2, none⟩ = some (.int .i64 (t.1 : Int)) ∧ W.cell? ⟨b, o + k * 2 + 1, none⟩ = some (.int .i64 (t.2 : Int))) := fun W k t hW hk => by
    have hlen := (List.getElem?_eq_some_iff.1 hk).1
    obtain ⟨b, o, hA, hbB, hc⟩ := HC1.out (by rw [ptC_len]; omega)
    obtain ⟨h1, h2⟩ := ptC_at hk
    exact ⟨b, o, hA, hbB, (hW.cell (p := ⟨b, o + k * 2, none⟩) hbB).trans (hc _ _ h1), (hW.cell (p := ⟨b, o + k * 2 + 1, none⟩) hbB).trans (by rw [Nat.add_assoc]; exact hc _ _ h2)⟩
  go_loopg [5] n (fun gk i wr => ∃ k : Nat, k + gk = n ∧ i = .int .i64 (k : Int) ∧ NB wr w1.heap.size (oftP (ps.take k)) ∧ Below w1.heap.size w1 wr)
  case atStart => exact ⟨0, by omega, rfl, HN2.out, HB2.out⟩
  case round =>
    obtain ⟨k, hk, rfl, hnb, hbel⟩ := hrel
    have HNB := Lib.hid hnb
    have HBEL := Lib.hid hbel
    clear hnb hbel HN2 HB2
    by_cases hkn : k < n
    · obtain ⟨t, ht⟩ : ∃ t, ps[k]? = some t := ⟨_, List.getElem?_eq_getElem (by rw [HN.out]; exact hkn)⟩
      have hm2 := List.mem_of_getElem? ht
      obtain ⟨h19, _, _, _⟩ := HALL.out t hm2
      obtain ⟨b, o, rfl, hbB, c0, _⟩ := HCP.out wr k t HBEL.out ht
      obtain ⟨x, hx⟩ : ∃ x, (oftP (ps.take k))[t.1]? = some x := ⟨_, List.getElem?_eq_getElem (by rw [oftP_len]; exact h19)⟩
      have hx320 : x ≤ 320 := by
        have h1 := oftP_le (ps.take k) x (List.mem_of_getElem? hx)
        rw [List.length_take] at h1
        omega
      have c1 := HNB.out.cell hx
      have f1 : wr.frozen? ⟨w1.heap.size, t.1, none⟩ = false := HNB.out.free
      have HUP : Hid (oftP (ps.take (k + 1)) = (oftP (ps.take k)).set t.1 (x + 1)) := by
        show _ = _
        rw [List.take_add_one, ht]
        have h1 := oftP_snoc (ps.take k) t
        rw [show (oftP (ps.take k)).getD t.1 0 = x by rw [List.getD, hx]; rfl] at h1
        exact h1
      clear ht hm2 hx
      obtain ⟨s, d⟩ := t
      dsimp only at h19 c0 c1 f1 HUP
      go_wp2
      go_roundg (gk - 1)
      case measure => omega
      case rel => exact ⟨k + 1, by omega, by go_num, by rw [HUP.out]; have h := HNB.out.set s (x + 1); push_cast at h; exact h, HBEL.out.setCell (Nat.le_refl _) _⟩
    · obtain rfl : k = n := by omega
      rw [show ps.take k = ps from List.take_of_length_le (by rw [HN.out]; exact Nat.le_refl _)] at HNB
      have HLN : Hid (Calls Tryz.prog 116 #[.slice (some ⟨w1.heap.size, 0, none⟩) 19 19] wr fun e w' => e = .returned (.slice (some ⟨wr.heap.size, 0, none⟩) 19 19) ∧ NB w' wr.heap.size (lnP ps) ∧ Below wr.heap.size wr w') :=
        refLen_ok (some ⟨w1.heap.size, 0, none⟩) 19 19 (oftP ps) wr.heap.size wr (oftP_len ps) (by omega) HNB.out.cellsN (Nat.le_refl _) (fun y hy => by have := oftP_le ps y hy; have := HN.out; omega)
      have HVL : Hid (∀ W, NB W wr.heap.size (lnP ps) → Calls Tryz.prog 117 #[.slice (some ⟨wr.heap.size, 0, none⟩) 19 19] W fun e w' => e = .returned (.slice (some ⟨W.heap.size, 0, none⟩) 19 19) ∧ IntBlock w' W.heap.size (caV (zN (lnP ps))) ∧ Below W.heap.size W w') := fun W hW =>
        ref8Values_any (some ⟨wr.heap.size, 0, none⟩) 19 19 (zN (lnP ps)) W.heap.size W (by rw [zN_len, lnP_len]) (by omega) (by have h := hW.cellsN; rw [zN_cs] at h; exact h) (Nat.le_refl _)
      have hwl : IntKind.u32.wrap (l : Int) = (l : Int) := IntWalk.u32_in _ (by omega)
      have HRW := Lib.hid (fun W => refRow_any (l : Int) 9 W (by omega) (by omega) (by omega) (by omega))
      rw [show cnt 9 = 9 from rfl, Int.toNat_natCast] at HRW
      go_wp2_with (first
        | (go_at_call 116; refine HLN.out.mono ?_; rintro e w3 ⟨rfl, hn3, hb3⟩; have HN3 := Lib.hid hn3; have HB3 := Lib.hid hb3; clear hn3 hb3)
        | (go_at_call 117; refine (HVL.out _ HN3.out).mono ?_; rintro e w4 ⟨rfl, hi4, hb4⟩; have HI4 := Lib.hid hi4; have HB4 := Lib.hid hb4; clear hi4 hb4)
        | (go_at_call 140; refine (HRW.out _).mono ?_; rintro e w5 ⟨A5, c5, rfl, ho5, hb5⟩; have HO5 := Lib.hid ho5; have HB5 := Lib.hid hb5; clear ho5 hb5))
      have HG : Hid (w1.heap.size < wr.heap.size ∧ wr.heap.size < w3.heap.size ∧ w3.heap.size < w4.heap.size) := ⟨HNB.out.lt, HN3.out.lt, ib_lt HI4.out⟩
      have HB14 : Hid (Below w1.heap.size w1 w4) := (HBEL.out.trans (HB3.out.mono (by have := HG.out; omega))).trans (HB4.out.mono (by have := HG.out; omega))
      have HLN4 : Hid (∀ (W : World) (j y : Nat), Below w4.heap.size w4 W → (lnP ps)[j]? = some y → W.cell? ⟨wr.heap.size, j, none⟩ = some (.int .i64 (y : Int))) := fun W j y hW hj =>
        NB.cell ((HN3.out.below HB4.out (by have := HG.out; omega)).below hW (by have := HG.out; omega)) hj
      have HVL4 : Hid (∀ (W : World) (j : Nat) (y : Int), Below w4.heap.size w4 W → (caV (zN (lnP ps)))[j]? = some y → W.cell? ⟨w3.heap.size, j, none⟩ = some (.int .i64 y)) := fun W j y hW hj =>
        (hW.cell (p := ⟨w3.heap.size, j, none⟩) (by show w3.heap.size < _; have := HG.out; omega)).trans (ib_cell HI4.out hj)
      have HCP4 : Hid (∀ W k t, Below w4.heap.size w4 W → ps[k]? = some t → ∃ b o, Ap = some ⟨b, o, none⟩ ∧ b < w1.heap.size ∧ W.cell? ⟨b, o + k * 2, none⟩ = some (.int .i64 (t.1 : Int)) ∧ W.cell? ⟨b, o + k * 2 + 1, none⟩ = some (.int .i64 (t.2 : Int))) := fun W k t hW hk =>
        HCP.out W k t (HB14.out.trans (hW.mono (by have := HG.out; omega))) hk
      have HW4 : Hid (Below w.heap.size w w4) := HB1.out.trans (HB14.out.mono HB1.out.size)
      obtain ⟨gl, hgl⟩ : ∃ gl, wr.heap.size = gl := ⟨_, rfl⟩
      obtain ⟨gv, hgv⟩ : ∃ gv, w3.heap.size = gv := ⟨_, rfl⟩
      rw [hgl] at HLN4
      rw [hgv] at HVL4
      rw [hgl, hgv]
      clear HNB HBEL HLN HVL HN3 HB3 HI4 HB4 HG HB14 HCP hgl hgv HC1
      obtain ⟨M1, hM1⟩ : ∃ M1, bitsOf l 9 = M1 := ⟨_, rfl⟩
      have hM1l : M1.length = 9 := by rw [← hM1, bitsOf_length]
      have HO5' : Hid (OwnB w5 w4.heap.size 5 (.slice A5 9 c5) 9 (bitBytes (M1 ++ lensB ((lnP ps).take 0)))) := by
        have h := HO5.out
        rw [hM1] at h
        show OwnB _ _ _ _ _ _
        simpa [lensB] using h
      have HM1 := Lib.hid hM1
      clear hM1 HO5
      go_loopg [8, 9] 19 (fun gk v i wr => ∃ k : Nat, k + gk = 19 ∧ i = .int .i64 (k : Int) ∧ OwnB wr w4.heap.size 5 v (9 + 4 * k) (bitBytes (M1 ++ lensB ((lnP ps).take k))) ∧ Below w4.heap.size w4 wr)
      case atStart => exact ⟨0, by omega, rfl, HO5'.out, HB5.out⟩
      case round =>
        obtain ⟨k2, hk2, rfl, hown, hbel⟩ := hrel
        have HOWN := Lib.hid hown
        have HBEL := Lib.hid hbel
        clear hown hbel HO5' HB5
        obtain ⟨A6, c6, rfl⟩ := own_form HOWN.out
        by_cases hk19 : k2 < 19
        · obtain ⟨y, hy⟩ : ∃ y, (lnP ps)[k2]? = some y := ⟨_, List.getElem?_eq_getElem (by rw [lnP_len]; exact hk19)⟩
          have hy15 : y ≤ 15 := lnP_le hy
          have c0 := HLN4.out wr k2 y HBEL.out hy
          have hwy : IntKind.u32.wrap (y : Int) = (y : Int) := IntWalk.u32_in _ (by omega)
          have HUP : Hid (bitBytes (M1 ++ lensB ((lnP ps).take (k2 + 1))) = bitBytes (M1 ++ lensB ((lnP ps).take k2)) ++ bitBytes (bitsOf y 4)) := by show _ = _; rw [lensB_up hy, ← List.append_assoc, bitBytes_append]
          have HR4 := Lib.hid (fun W => refRow_any (y : Int) 4 W (by omega) (by omega) (by omega) (by omega))
          rw [show cnt 4 = 4 from rfl, Int.toNat_natCast] at HR4
          clear hy
          go_wp2_with (first
            | (go_at_call 140; refine (HR4.out _).mono ?_; rintro e w7 ⟨A7, c7, rfl, ho7, hb7⟩; have HO7 := Lib.hid (Cells.of_own ho7); have HOW7 := Lib.hid (own_keep HOWN.out (Mod.of_below hb7) (fun _ _ h => h)); have HB7 := Lib.hid (HBEL.out.trans (hb7.mono HBEL.out.size)); clear ho7 hb7)
            | (at_builtin; refine wpList_app w7 byteElem3 rfl (.tmp 45) (.tmp 51) rfl w4.heap.size (.slice A6 (9 + 4 * k2) c6) (9 + 4 * k2) (byteCells (bitBytes (M1 ++ lensB ((lnP ps).take k2)))) rfl HOW7.out w7.heap.size A7 4 c7 (byteCells (bitBytes (bitsOf y 4))) rfl (by rw [byteCells_length, bitBytes_length, bitsOf_length]) HO7.out (byteCells_one _) (by unfold maxLen; omega) (by omega) HB7.out.size ?_; intro A8 c8 w8 hA; have HA := Lib.hid hA; clear hA))
          go_roundg (gk - 1)
          case measure => omega
          case rel =>
            refine ⟨k2 + 1, by omega, by go_num, ?_, HA.out.below HB7.out HB7.out.size (own_base HOW7.out)⟩
            have h := HA.out.own
            rw [← byteCells_append, ← HUP.out] at h
            exact h
        · obtain rfl : k2 = 19 := by omega
          rw [show (lnP ps).take 19 = lnP ps from List.take_of_length_le (by rw [lnP_len]; exact Nat.le_refl _)] at HOWN
          obtain ⟨M2, hM2⟩ : ∃ M2, M1 ++ lensB (lnP ps) = M2 := ⟨_, rfl⟩
          have hM2l : M2.length = 85 := by rw [← hM2, List.length_append, lensB_len, lnP_len, hM1l]
          rw [hM2] at HOWN
          have HM2 := Lib.hid hM2
          have HOWN' : Hid (OwnB wr w4.heap.size 5 (.slice A6 (M2 ++ partsB (zN (lnP ps)) (ps.take 0)).length c6) (M2 ++ partsB (zN (lnP ps)) (ps.take 0)).length (bitBytes (M2 ++ partsB (zN (lnP ps)) (ps.take 0)))) := by
            show OwnB _ _ _ _ _ _
            have e : M2 ++ partsB (zN (lnP ps)) (ps.take 0) = M2 := by simp [partsB]
            rw [e, hM2l]
            exact HOWN.out
          have hv0 : (9 : Nat) + 4 * 19 = (M2 ++ partsB (zN (lnP ps)) (ps.take 0)).length := by rw [show M2 ++ partsB (zN (lnP ps)) (ps.take 0) = M2 by simp [partsB], hM2l]
          rw [hv0]
          clear hM2 HOWN hv0
          go_wp2
          obtain ⟨wq, hwq⟩ : ∃ wq, wq = wr := ⟨_, rfl⟩
          subst hwq
          go_loopg [8, 10] k (fun gk v i wr => ∃ k2 : Nat, k2 + gk = k ∧ i = .int .i64 (k2 : Int) ∧ OwnB wr w4.heap.size 5 v (M2 ++ partsB (zN (lnP ps)) (ps.take k2)).length (bitBytes (M2 ++ partsB (zN (lnP ps)) (ps.take k2))) ∧ Below w4.heap.size w4 wr)
          case atStart => exact ⟨0, by omega, rfl, HOWN'.out, HBEL.out⟩
          case round =>
            obtain ⟨k3, hk3, rfl, hown, hbel⟩ := hrel
            have HOWN := Lib.hid hown
            have HBL := Lib.hid hbel
            clear hown hbel HOWN' HBEL
            obtain ⟨A9, c9, rfl⟩ := own_form HOWN.out
            by_cases hk3k : k3 < k
            · obtain ⟨t, ht⟩ : ∃ t, ps[k3]? = some t := ⟨_, List.getElem?_eq_getElem (by rw [HN.out]; exact hk3k)⟩
              have hm3 := List.mem_of_getElem? ht
              obtain ⟨h19, hsp1, hsp2, hsp3⟩ := HALL.out t hm3
              obtain ⟨y, v, kk, hy, hyl, hsy, hv, hy15⟩ := lnP_sym hm3 h19
              have HVV : Hid ((caV (zN (lnP ps)))[t.1]? = some (v : Int)) := hy.val
              have HYL := Lib.hid hyl
              have hpb := partsB_len HRT.out (ps.take k3)
              rw [List.length_take] at hpb
              have HUP : Hid (M2 ++ partsB (zN (lnP ps)) (ps.take (k3 + 1)) = (M2 ++ partsB (zN (lnP ps)) (ps.take k3)) ++ (codeB v y ++ bitsOf (t.2 - (spanP t.1).1) (spanP t.1).2)) := by
                show _ = _
                rw [partsB_up ht, partB, hsy, List.append_assoc]
              have HCC : Hid (∀ W, Below w4.heap.size w4 W → ∃ b o, Ap = some ⟨b, o, none⟩ ∧ W.cell? ⟨b, o + k3 * 2, none⟩ = some (.int .i64 (t.1 : Int)) ∧ W.cell? ⟨b, o + k3 * 2 + 1, none⟩ = some (.int .i64 (t.2 : Int))) := fun W hW => by
                obtain ⟨b, o, h1, _, h2, h3⟩ := HCP4.out W k3 t hW ht
                exact ⟨b, o, h1, h2, h3⟩
              have hM3l : (M2 ++ partsB (zN (lnP ps)) (ps.take k3)).length ≤ 10000 := by rw [List.length_append]; omega
              obtain ⟨M3, hM3⟩ : ∃ M3, M2 ++ partsB (zN (lnP ps)) (ps.take k3) = M3 := ⟨_, rfl⟩
              rw [hM3] at HUP HOWN hM3l ⊢
              have hspl := spanP_le t.1
              obtain ⟨s, d⟩ := t
              dsimp only at h19 hsp1 hsp2 hsp3 HVV HYL HUP HCC hspl
              have HEX := Lib.hid (fun W => rextra_any s W)
              obtain ⟨⟨sa, sb⟩, hab⟩ : ∃ ab, spanP s = ab := ⟨_, rfl⟩
              rw [hab] at hsp1 hsp3 HUP hspl HEX
              dsimp only at hsp1 hsp3 HUP hspl HEX
              obtain ⟨dm, hdm⟩ : ∃ dm, d - sa = dm := ⟨_, rfl⟩
              rw [hdm] at HUP
              have hdm2 : (d : Int) - (sa : Int) = (dm : Int) := by omega
              have hdl : dm ≤ 320 := by
                have h7 : 2 ^ sb ≤ 128 := Nat.pow_le_pow_right (n := 2) (by decide) hspl.2.2
                omega
              have hwd : IntKind.u32.wrap (dm : Int) = (dm : Int) := IntWalk.u32_in _ (by omega)
              obtain ⟨m3, hm3'⟩ : ∃ m3, M3.length = m3 := ⟨_, rfl⟩
              have HM3L := Lib.hid hm3'
              rw [hm3'] at HOWN hM3l ⊢
              have HCL : Hid ((codeB v y).length = y) := codeB_len v y
              have HLEN : Hid ((M2 ++ partsB (zN (lnP ps)) (ps.take (k3 + 1))).length = m3 + y + sb) := by
                show _ = _
                rw [HUP.out, List.length_append, List.length_append, HCL.out, bitsOf_length, HM3L.out, Nat.add_assoc]
              have HBY : Hid (byteCells (bitBytes (M2 ++ partsB (zN (lnP ps)) (ps.take (k3 + 1)))) = byteCells (bitBytes M3) ++ byteCells (bitBytes (codeB v y)) ++ byteCells (bitBytes (bitsOf dm sb))) := by
                show _ = _
                rw [HUP.out, bitBytes_append, bitBytes_append, byteCells_append, byteCells_append, List.append_assoc]
              have HREF := Lib.hid (fun W => refBits_any v y W hv hy15)
              have HRWD := Lib.hid (fun W => refRow_any (dm : Int) (sb : Int) W (by omega) (by omega) (by omega) (by omega))
              rw [cnt_nat (k := sb) (by omega), Int.toNat_natCast] at HRWD
              obtain ⟨b, o, rfl, c0, c1⟩ := HCC.out wr HBL.out
              have HP3 : Hid (∀ W, Below w4.heap.size w4 W → W.cell? ⟨gl, s, none⟩ = some (.int .i64 (y : Int)) ∧ W.cell? ⟨gv, s, none⟩ = some (.int .i64 (v : Int))) := fun W hW => ⟨HLN4.out W s y hW HYL.out, HVL4.out W s v hW HVV.out⟩
              have HC1' : Hid (∀ W, Below w4.heap.size w4 W → W.cell? ⟨b, o + k3 * 2 + 1, none⟩ = some (.int .i64 (d : Int))) := fun W hW => by
                obtain ⟨b', o', h1, _, h3⟩ := HCC.out W hW
                cases h1
                exact h3
              have S5 := HP3.out wr HBL.out
              have i19 : (s : Int) < 19 := by omega
              have i0 : (0 : Int) ≤ (s : Int) := by omega
              clear ht hm3 hy hyl hsy hM3 hm3' hdm hab hpb HCC
              go_upto_region 18 with fail
              go_region_held3 (fun W => W.cell? ⟨gl, s, none⟩ = some (.int .i64 (y : Int)) ∧ W.cell? ⟨gv, s, none⟩ = some (.int .i64 (v : Int))) (first | exact S5 | exact S6 | exact S7)
                ((first
                | (go_at_call 166; refine (HREF.out _).mono ?_; rintro e w6 ⟨A6, c6, rfl, hown, hbel⟩; have HO6 := Lib.hid (Cells.of_own hown); have HOW6 := Lib.hid (own_keep HOWN.out.drew (Mod.of_below hbel) (fun _ _ h => h)); have HB6 := Lib.hid (HBL.out.drew.trans (hbel.mono HBL.out.size)); clear hown hbel; have S6 := HP3.out _ HB6.out)
                | (refine step_app _ byteElem3 (by rfl) (.tmp 64) (.tmp 73) (by rfl) w4.heap.size (.slice A9 m3 c9) m3 (byteCells (bitBytes M3)) (by rfl) HOW6.out w6.heap.size A6 y c6 (byteCells (bitBytes (codeB v y))) (by rfl) (by rw [byteCells_length, bitBytes_length, HCL.out, Nat.mul_one]) HO6.out (byteCells_one _) (by unfold maxLen; omega) (by omega) HB6.out.size ?_; intro A7 c7 w7 hA; have HA := Lib.hid hA; clear hA; have HB7 := Lib.hid (HA.out.below HB6.out HB6.out.size (own_base HOW6.out)); have S7 := HP3.out _ HB7.out)))
              have c1' := HC1'.out w7 HB7.out
              go_wp2_with (first
                | (go_at_call 167; refine (HEX.out _).mono ?_; rintro e w' ⟨rfl, rfl⟩)
                | (go_at_call 140; refine (HRWD.out _).mono ?_; rintro e w8 ⟨A8, c8, rfl, ho8, hb8⟩; have HO8 := Lib.hid (Cells.of_own ho8); have HOW8 := Lib.hid (own_keep HA.out.own (Mod.of_below hb8) (fun _ _ h => h)); have HB8 := Lib.hid (HB7.out.trans (hb8.mono HB7.out.size)); clear ho8 hb8)
                | (at_builtin; refine wpList_app w8 byteElem3 rfl (.tmp 80) (.tmp 90) rfl w4.heap.size (.slice A7 (m3 + y) c7) (m3 + y) (byteCells (bitBytes M3) ++ byteCells (bitBytes (codeB v y))) rfl HOW8.out w8.heap.size A8 sb c8 (byteCells (bitBytes (bitsOf dm sb))) rfl (by rw [byteCells_length, bitBytes_length, bitsOf_length, Nat.mul_one]) HO8.out (byteCells_one _) (by unfold maxLen; omega) (by omega) HB8.out.size ?_; intro A10 c10 w10 hA10; have HA10 := Lib.hid hA10; clear hA10))
              go_roundg (gk - 1)
              case measure => omega
              case rel =>
                refine ⟨k3 + 1, by omega, by go_num, ?_, HA10.out.below HB8.out HB8.out.size (own_base HOW8.out)⟩
                have h := HA10.out.own
                rw [HLEN.out]
                unfold OwnB
                rw [HBY.out]
                exact h
            · obtain rfl : k3 = k := by omega
              rw [show ps.take k3 = ps from List.take_of_length_le (by rw [HN.out]; exact Nat.le_refl _)] at HOWN ⊢
              have HE : Hid (M2 ++ partsB (zN (lnP ps)) ps = bitsOf l 9 ++ lensB (lnP ps) ++ partsB (zN (lnP ps)) ps) := by show _ = _; rw [← HM2.out, ← HM1.out]
              have HSZ := Lib.hid HW4.out.size
              go_wp2
              go_ret
              rw [← HE.out]
              exact ⟨A9, c9, rfl, own_leP HOWN.out HSZ.out, HW4.out.trans (HBL.out.mono HSZ.out)⟩
end Go.Proofs.YtaknladkodibaaaGreatDoor
/- Layer 13: the reference's bits of a symbol, and what is behind it. -/
namespace Go.Proofs.YtaknladkodibaaaGreatDoor
open Go.RowKit BitsP SymP
attribute [local go_sem ↓] Go.wp_at_zero Go.wp_at_succ

set_option maxRecDepth 100000 in
set_option maxHeartbeats 1000000 in
theorem rbits13_any (gl gv n : Nat) (ws : List Nat) (c : Nat × Nat × Nat) (w : World) (hws : ws.length = n) (hn : n ≤ 320) {x : Nat} (hx : ws[c.1]? = some x) (h0 : 0 < x) (hl : NB w gl (lensW ws)) (hv : IntBlock w gv (caV (zN (lensW ws)))) (h2 : c.2.1 ≤ 13) (h3 : c.2.2 < 2 ^ c.2.1) :
    Calls Tryz.prog 120 #[.slice (some ⟨gl, 0, none⟩) n n, .slice (some ⟨gv, 0, none⟩) n n, .agg #[.int .i64 (c.1 : Int), .int .i64 (c.2.1 : Int), .int .u32 (c.2.2 : Int)]] w
      fun e w' => ∃ A c', e = .returned (.slice A (clsB (zN (lensW ws)) c).length c') ∧ OwnB w' w.heap.size 5 (.slice A (clsB (zN (lensW ws)) c).length c') (clsB (zN (lensW ws)) c).length (bitBytes (clsB (zN (lensW ws)) c)) ∧ Below w.heap.size w w' := by
  obtain ⟨y, v, k, hy, hyl, hsy, hvl, hy15⟩ := lensW_sym (by omega) hx h0
  have hsn : c.1 < n := by have := (List.getElem?_eq_some_iff.1 hx).1; omega
  have HVV : Hid ((caV (zN (lensW ws)))[c.1]? = some (v : Int)) := hy.val
  have HYL := Lib.hid hyl
  have HNL := Lib.hid hl
  have HIV := Lib.hid hv
  obtain ⟨num, nb, ex⟩ := c
  dsimp only at h2 h3 hsn HVV HYL hsy
  have h32 : ex < 4294967296 := Nat.lt_of_lt_of_le h3 (Nat.le_trans (Nat.pow_le_pow_right (by decide) h2) (by decide))
  have HCB : Hid (clsB (zN (lensW ws)) (num, nb, ex) = codeB v y ++ bitsOf ex nb) := by show _ = _; unfold clsB; rw [hsy]
  have HLEN : Hid ((clsB (zN (lensW ws)) (num, nb, ex)).length = y + nb) := by show _ = _; rw [HCB.out, List.length_append, codeB_len, bitsOf_length]
  have HBY : Hid (byteCells (bitBytes (clsB (zN (lensW ws)) (num, nb, ex))) = byteCells (bitBytes (codeB v y)) ++ byteCells (bitBytes (bitsOf ex nb))) := by show _ = _; rw [HCB.out, bitBytes_append, byteCells_append]
  rw [HLEN.out]
  have HREF := Lib.hid (fun W => refBits_any v y W hvl hy15)
  have HRW := Lib.hid (fun W => refRow_any (ex : Int) (nb : Int) W (by omega) (by omega) (by omega) (by omega))
  rw [cnt_nat (k := nb) (by omega), Int.toNat_natCast] at HRW
  obtain ⟨W1, hW1⟩ : ∃ W1, w.alloc (.cells #[.int .i64 (num : Int), .int .i64 (nb : Int), .int .u32 (ex : Int)] 181) = W1 := ⟨_, rfl⟩
  have HB1 : Hid (Below w.heap.size w W1) := by show Below _ _ _; rw [← hW1]; exact (Below.refl _ w).alloc (Nat.le_refl _) _
  have HX1 : Hid (W1.heap[w.heap.size]? = some (.cells #[.int .i64 (num : Int), .int .i64 (nb : Int), .int .u32 (ex : Int)] 181 (0, 0))) := by show _ = _; rw [← hW1]; exact heap_alloc_new w _
  have HP : Hid (∀ W, Below W1.heap.size W1 W → W.cell? ⟨w.heap.size, 0, none⟩ = some (.int .i64 (num : Int)) ∧ W.cell? ⟨w.heap.size, 1, none⟩ = some (.int .i64 (nb : Int)) ∧ W.cell? ⟨w.heap.size, 2, none⟩ = some (.int .u32 (ex : Int)) ∧ W.cell? ⟨gl, num, none⟩ = some (.int .i64 (y : Int)) ∧ W.cell? ⟨gv, num, none⟩ = some (.int .i64 (v : Int))) := fun W hW => by
    have hlt := HX1.out
    have hz1 : w.heap.size < W1.heap.size := (Array.getElem?_eq_some_iff.1 hlt).1
    have h := (hW.block _ hz1).trans hlt
    have hb := HB1.out.trans (hW.mono HB1.out.size)
    exact ⟨cell_of_row _ _ 0 _ _ _ h, cell_of_row _ _ 1 _ _ _ h, cell_of_row _ _ 2 _ _ _ h, (HNL.out.below hb HNL.out.lt).cell HYL.out, (hb.cell (p := ⟨gv, num, none⟩) (ib_lt HIV.out)).trans (ib_cell HIV.out HVV.out)⟩
  have HW1 := Lib.hid hW1
  clear hws hx h0 hl hv hy hyl hsy hW1
  have S5 := HP.out W1 (Below.refl _ _)
  have i0 : (0 : Int) ≤ (num : Int) := by omega
  have i1 : (num : Int) < (n : Int) := by omega
  go_enter Tryz.func120, Tryz.ntmps120
  go_upto_region 1 with fail
  rw [HW1.out]
  have S6 : W1.cell? ⟨w.heap.size, 0, none⟩ = some (.int .i64 (num : Int)) ∧ W1.cell? ⟨gl, num, none⟩ = some (.int .i64 (y : Int)) ∧ W1.cell? ⟨gv, num, none⟩ = some (.int .i64 (v : Int)) := ⟨S5.1, S5.2.2.2⟩
  go_region_held3 (fun W => W.cell? ⟨w.heap.size, 0, none⟩ = some (.int .i64 (num : Int)) ∧ W.cell? ⟨gl, num, none⟩ = some (.int .i64 (y : Int)) ∧ W.cell? ⟨gv, num, none⟩ = some (.int .i64 (v : Int))) (first | exact S6 | exact S7)
    ((go_at_call 166; refine (HREF.out _).mono ?_; rintro e w6 ⟨A6, c6, rfl, hown, hbel⟩; have HO6 := Lib.hid (own_leP hown HB1.out.size); have HB6 := Lib.hid ((Below.refl W1.heap.size W1).drew.trans (hbel.mono (Nat.le_refl _))); clear hown hbel; have S8 := HP.out _ HB6.out; have S7 := And.intro S8.1 S8.2.2.2))
  have HB7 : Hid (Below w.heap.size w w6) := HB1.out.trans (HB6.out.mono HB1.out.size)
  obtain ⟨_, c1, c2, _, _⟩ := HP.out w6 HB6.out
  go_wp2_with (first
    | (go_at_call 140; refine (HRW.out _).mono ?_; rintro e w8 ⟨A8, c8, rfl, ho8, hb8⟩; have HO8 := Lib.hid (Cells.of_own ho8); have HOW8 := Lib.hid (own_keep HO6.out (Mod.of_below hb8) (fun _ _ h => h)); have HB8 := Lib.hid (HB7.out.trans (hb8.mono HB7.out.size)); clear ho8 hb8)
    | (at_builtin; refine wpList_app w8 byteElem3 rfl (.tmp 19) (.tmp 24) rfl w.heap.size (.slice A6 y c6) y (byteCells (bitBytes (codeB v y))) rfl HOW8.out w8.heap.size A8 nb c8 (byteCells (bitBytes (bitsOf ex nb))) rfl (by rw [byteCells_length, bitBytes_length, bitsOf_length, Nat.mul_one]) HO8.out (byteCells_one _) (by unfold maxLen; omega) (by omega) HB8.out.size ?_; intro A10 c10 w10 hA10; have HA10 := Lib.hid hA10; clear hA10))
  go_ret
  refine ⟨A10, c10, rfl, ?_, HA10.out.below HB8.out HB8.out.size (own_base HOW8.out)⟩
  have h := HA10.out.own
  unfold OwnB
  rw [HBY.out]
  exact h
end Go.Proofs.YtaknladkodibaaaGreatDoor
/- Layer 13: the reference's Put. -/
namespace Go.Proofs.YtaknladkodibaaaGreatDoor
open Go.RowKit BitsP SymP
attribute [local go_sem ↓] Go.wp_at_zero Go.wp_at_succ

theorem IntBlock.below13 {w W : World} {g B : Nat} {xs : List Int} (h : IntBlock w g xs) (hb : Below B w W) (hg : g < B) : IntBlock W g xs := (hb.block g hg).trans h
set_option maxRecDepth 100000 in
set_option maxHeartbeats 8000000 in
theorem rput13_any (A : Option Addr) (l c : Nat) (ts : List Tk) (w : World) (hl : ts.length = l) (hm : l ≤ 65536) (hk : ∀ t ∈ ts, okT t) (hc : ∀ k t, ts[k]? = some t → TkAt w A k (t.1.toNat : Int) (t.2.1 : Int) (t.2.2 : Int)) :
    Calls Tryz.prog 73 #[.slice A l c] w fun e w' => ∃ A' c', e = .returned (.slice A' (blkB ts).length c') ∧ OwnB w' w.heap.size 5 (.slice A' (blkB ts).length c') (blkB ts).length (bitBytes (blkB ts)) ∧ Below w.heap.size w w' := by
  have HWT := Lib.hid (rweights_any A l c ts w hl hm hk hc)
  have HK := Lib.hid hk
  have HL := Lib.hid hl
  have HC := Lib.hid hc
  have HR1 : Hid (caR (zN (lensW (wt1 ts))) = true) := by
    obtain ⟨x, hx, h0⟩ := wt1_end ts
    exact lensW_caR (by rw [wt1_len]; omega) hx h0
  have HR2 : Hid (caR (zN (lensW (wt2 ts))) = true) := by
    obtain ⟨s, x, hx, h0⟩ := wt2_some ts hk
    exact lensW_caR (by rw [wt2_len]; omega) hx h0
  have HTL1 := Lib.hid (tab_few (ws := wt1 ts) (by rw [wt1_len]; omega) (by obtain ⟨x, h1, h2⟩ := wt1_end ts; exact ⟨256, x, h1, h2⟩))
  have HTL2 := Lib.hid (tab_few (ws := wt2 ts) (by rw [wt2_len]; omega) (wt2_some ts hk))
  have HO1 : Hid (∀ x ∈ wt1 ts, x ≤ 1073741824) := fun x hx => by
    have h1 := incW_le 273 _ x hx
    rw [List.length_append, fsts, List.length_map, HL.out] at h1
    simp at h1
    omega
  have HO2 : Hid (∀ x ∈ wt2 ts, x ≤ 1073741824) := fun x hx => by
    have h1 := incW_le 30 _ x hx
    have h2 := mts_len ts
    split at h1
    · simp at h1; omega
    · have := HL.out; omega
  have HE1 : Hid (∃ x : Nat, (wt1 ts)[256]? = some x ∧ 0 < x) := wt1_end ts
  have HH1 : Hid (∀ t ∈ ts, ∃ x, (wt1 ts)[(cls1 t).1]? = some x ∧ 0 < x) := fun t ht => wt1_has ht (hk t ht)
  have HH2 : Hid (∀ t ∈ ts, isM t = true → ∃ x, (wt2 ts)[(cls2 t).1]? = some x ∧ 0 < x) := fun t ht hm => wt2_has ht (hk t ht) hm
  have HBLK : Hid (blkB ts = (tabP (lensW (wt1 ts)) ++ tabP (lensW (wt2 ts))) ++ toksB (zN (lensW (wt1 ts))) (zN (lensW (wt2 ts))) ts ++ symB (zN (lensW (wt1 ts))) 256) := rfl
  have W1L : Hid ((wt1 ts).length = 273) := wt1_len ts
  have W2L : Hid ((wt2 ts).length = 30) := wt2_len ts
  have HTOK : Hid (∀ k, (toksB (zN (lensW (wt1 ts))) (zN (lensW (wt2 ts))) (ts.take k)).length ≤ 3700000) := fun k => by
    have h := toksB_len HR1.out HR2.out (ts := ts.take k) (fun t ht => hk t (List.mem_of_mem_take ht))
    rw [List.length_take] at h
    omega
  obtain ⟨u1, hu1⟩ : ∃ u1, wt1 ts = u1 := ⟨_, rfl⟩
  obtain ⟨u2, hu2⟩ : ∃ u2, wt2 ts = u2 := ⟨_, rfl⟩
  rw [hu1, hu2] at HWT HBLK HTOK
  rw [hu1] at HR1 HTL1 HO1 HE1 HH1 W1L
  rw [hu2] at HR2 HTL2 HO2 HH2 W2L
  have HM4L : Hid ((tabP (lensW u1) ++ tabP (lensW u2)).length ≤ 200000) := by have := HTL1.out; have := HTL2.out; show _ ≤ _; rw [List.length_append]; omega
  obtain ⟨z1, hz1⟩ : ∃ z1, zN (lensW u1) = z1 := ⟨_, rfl⟩
  obtain ⟨z2, hz2⟩ : ∃ z2, zN (lensW u2) = z2 := ⟨_, rfl⟩
  obtain ⟨M4, hM4⟩ : ∃ M4, tabP (lensW u1) ++ tabP (lensW u2) = M4 := ⟨_, rfl⟩
  rw [hz1] at HR1
  rw [hz2] at HR2
  rw [hz1, hz2] at HTOK
  rw [hM4] at HM4L
  rw [hz1, hz2, hM4] at HBLK
  have HZ1 := Lib.hid hz1
  have HZ2 := Lib.hid hz2
  have HM4 := Lib.hid hM4
  rw [HBLK.out]
  clear hk hc hl hu1 hu2 HBLK hz1 hz2 hM4
  go_enter Tryz.func73, Tryz.ntmps73
  go_wp2_with fail
  refine HWT.out.mono ?_
  rintro e w2 ⟨hb2, g1, g2, rfl, hn1, hn2, hg1, hg2⟩
  have HB2 := Lib.hid hb2
  have HLN1 := Lib.hid (refLen_ok (some ⟨g1, 0, none⟩) 273 273 u1 w2.heap.size w2 W1L.out (by omega) (NB.cellsN hn1) (Nat.le_refl _) HO1.out)
  have HLN2 : Hid (∀ W, Below w2.heap.size w2 W → _) := fun W hW => refLen_ok (some ⟨g2, 0, none⟩) 30 30 u2 W.heap.size W W2L.out (by omega) (NB.cellsN (hn2.below hW hn2.lt)) (Nat.le_refl _) HO2.out
  have HV1 : Hid (∀ W g, NB W g (lensW u1) → Calls Tryz.prog 117 #[.slice (some ⟨g, 0, none⟩) 273 273] W fun e w' => e = .returned (.slice (some ⟨W.heap.size, 0, none⟩) 273 273) ∧ IntBlock w' W.heap.size (caV (zN (lensW u1))) ∧ Below W.heap.size W w') := fun W g hW =>
    ref8Values_any (some ⟨g, 0, none⟩) 273 273 (zN (lensW u1)) W.heap.size W (by rw [zN_len, lensW_len]; exact W1L.out) (by omega) (by have h := hW.cellsN; rw [zN_cs] at h; exact h) (Nat.le_refl _)
  have HV2 : Hid (∀ W g, NB W g (lensW u2) → Calls Tryz.prog 117 #[.slice (some ⟨g, 0, none⟩) 30 30] W fun e w' => e = .returned (.slice (some ⟨W.heap.size, 0, none⟩) 30 30) ∧ IntBlock w' W.heap.size (caV (zN (lensW u2))) ∧ Below W.heap.size W w') := fun W g hW =>
    ref8Values_any (some ⟨g, 0, none⟩) 30 30 (zN (lensW u2)) W.heap.size W (by rw [zN_len, lensW_len]; exact W2L.out) (by omega) (by have h := hW.cellsN; rw [zN_cs] at h; exact h) (Nat.le_refl _)
  clear hb2 hn1 hn2 HWT
  go_wp2_with (first
    | (go_at_call 116; refine HLN1.out.mono ?_; rintro e w3 ⟨rfl, hn3, hb3⟩; clear HLN1; have HN3 := Lib.hid hn3; have HB3 := Lib.hid hb3; clear hn3 hb3)
    | (go_at_call 116; refine (HLN2.out w3 HB3.out).mono ?_; rintro e w4 ⟨rfl, hn4, hb4⟩; clear HLN2; have HN4 := Lib.hid hn4; have HB4 := Lib.hid hb4; have HN34 := Lib.hid (HN3.out.below hb4 HN3.out.lt); clear hn4 hb4)
    | (go_at_call 117; refine (HV1.out w4 _ HN34.out).mono ?_; rintro e w5 ⟨rfl, hi5, hb5⟩; clear HV1; have HI5 := Lib.hid hi5; have HB5 := Lib.hid hb5; have HN45 := Lib.hid (HN4.out.below hb5 HN4.out.lt); have HN35 := Lib.hid (HN34.out.below hb5 HN34.out.lt); clear hi5 hb5)
    | (go_at_call 117; refine (HV2.out w5 _ HN45.out).mono ?_; rintro e w6 ⟨rfl, hi6, hb6⟩; clear HV2; have HI6 := Lib.hid hi6; have HB6 := Lib.hid hb6; have HF6 := Lib.hid (And.intro (HN35.out.below hb6 HN35.out.lt) (And.intro (HN45.out.below hb6 HN45.out.lt) (And.intro (IntBlock.below13 HI5.out hb6 (ib_lt HI5.out)) hi6))); clear hi6 hb6; have HWB : Hid (Below w.heap.size w w6) := ((((HB2.out.trans (HB3.out.mono HB2.out.size)).trans (HB4.out.mono (Nat.le_trans HB2.out.size HB3.out.size))).trans (HB5.out.mono (Nat.le_trans (Nat.le_trans HB2.out.size HB3.out.size) HB4.out.size))).trans (HB6.out.mono (Nat.le_trans (Nat.le_trans (Nat.le_trans HB2.out.size HB3.out.size) HB4.out.size) HB5.out.size))); have HP1 := Lib.hid (rput9_any (some ⟨w2.heap.size, 0, none⟩) 273 273 (lensW u1) w6 (by rw [lensW_len]; exact W1L.out) (by omega) (by omega) (lensW_le (by rw [W1L.out]; omega)) (NB.cellsN HF6.out.1)); have HP2 : Hid (∀ W, Below w6.heap.size w6 W → _) := (fun W hW => rput9_any (some ⟨w3.heap.size, 0, none⟩) 30 30 (lensW u2) W (by rw [lensW_len]; exact W2L.out) (by omega) (by omega) (lensW_le (by rw [W2L.out]; omega)) (NB.cellsN (HF6.out.2.1.below hW HF6.out.2.1.lt))))
    | (go_at_call 118; refine HP1.out.mono ?_; rintro e w7 ⟨A7, c7, rfl, ho7, hb7⟩; clear HP1; have HO7 := Lib.hid ho7; have HB7 := Lib.hid hb7; clear ho7 hb7)
    | (go_at_call 118; refine (HP2.out w7 HB7.out).mono ?_; rintro e w8 ⟨A8, c8, rfl, ho8, hb8⟩; clear HP2; have HO8 := Lib.hid (Cells.of_own ho8); have HO78 := Lib.hid (own_keep HO7.out (Mod.of_below hb8) (fun _ _ h => h)); have HB8 := Lib.hid (HB7.out.trans (hb8.mono HB7.out.size)); clear ho8 hb8)
    | (at_builtin; have htl1 := HTL1.out; have htl2 := HTL2.out; refine wpList_app w8 byteElem3 rfl (.tmp 28) (.tmp 30) rfl w6.heap.size (.slice A7 (tabP (lensW u1)).length c7) (tabP (lensW u1)).length (byteCells (bitBytes (tabP (lensW u1)))) rfl HO78.out w8.heap.size A8 (tabP (lensW u2)).length c8 (byteCells (bitBytes (tabP (lensW u2)))) rfl (by rw [byteCells_length, bitBytes_length, Nat.mul_one]) HO8.out (byteCells_one _) (by unfold maxLen; omega) (by omega) HB8.out.size ?_; clear htl1 htl2; intro A9 c9 w9 hA9; have HA9 := Lib.hid hA9; clear hA9))
  obtain ⟨m0, hm0⟩ : ∃ m0, (tabP (lensW u1)).length + (tabP (lensW u2)).length = m0 := ⟨_, rfl⟩
  have HM0 : Hid ((M4 ++ toksB z1 z2 (ts.take 0)).length = m0) := by
    show _ = _
    rw [show M4 ++ toksB z1 z2 (ts.take 0) = M4 by simp [toksB], ← HM4.out, List.length_append, hm0]
  have HROW0 : Hid (OwnB w9 w6.heap.size 5 (.slice A9 m0 c9) m0 (bitBytes (M4 ++ toksB z1 z2 (ts.take 0)))) := by
    show OwnB _ _ _ _ _ _
    have h := HA9.out.own
    rw [← byteCells_append, ← bitBytes_append, hm0, HM4.out] at h
    rw [show M4 ++ toksB z1 z2 (ts.take 0) = M4 by simp [toksB]]
    exact h
  have HB9 : Hid (Below w6.heap.size w6 w9) := HA9.out.below HB8.out HB8.out.size (own_base HO78.out)
  rw [hm0]
  obtain ⟨gl1, hgl1⟩ : ∃ g, w2.heap.size = g := ⟨_, rfl⟩
  obtain ⟨gl2, hgl2⟩ : ∃ g, w3.heap.size = g := ⟨_, rfl⟩
  obtain ⟨gv1, hgv1⟩ : ∃ g, w4.heap.size = g := ⟨_, rfl⟩
  obtain ⟨gv2, hgv2⟩ : ∃ g, w5.heap.size = g := ⟨_, rfl⟩
  have HBT1 : Hid (∀ (W : World) (q : Nat × Nat × Nat) (x : Nat), Below w6.heap.size w6 W → u1[q.1]? = some x → 0 < x → q.2.1 ≤ 13 → q.2.2 < 2 ^ q.2.1 → _) := fun W q x hW hx h0 h2 h3 => rbits13_any w2.heap.size w4.heap.size 273 u1 q W W1L.out (by omega) hx h0 (HF6.out.1.below hW HF6.out.1.lt) (IntBlock.below13 HF6.out.2.2.1 hW (ib_lt HF6.out.2.2.1)) h2 h3
  have HBT2 : Hid (∀ (W : World) (q : Nat × Nat × Nat) (x : Nat), Below w6.heap.size w6 W → u2[q.1]? = some x → 0 < x → q.2.1 ≤ 13 → q.2.2 < 2 ^ q.2.1 → _) := fun W q x hW hx h0 h2 h3 => rbits13_any w3.heap.size w5.heap.size 30 u2 q W W2L.out (by omega) hx h0 (HF6.out.2.1.below hW HF6.out.2.1.lt) (IntBlock.below13 HF6.out.2.2.2 hW (ib_lt HF6.out.2.2.2)) h2 h3
  rw [HZ1.out, hgl1, hgv1] at HBT1
  rw [HZ2.out, hgl2, hgv2] at HBT2
  rw [hgl1, hgl2, hgv1, hgv2]
  clear hm0 hgl1 hgl2 hgv1 hgv2 HA9 HO78 HO8 HO7 HB8 HB7 HN34 HN45 HN35 HN3 HN4 HI5 HI6 HB2 HB3 HB4 HB5 HB6 HF6
  go_wp2
  go_loopg [9, 10] l (fun gk v i wr => ∃ k : Nat, k + gk = l ∧ i = .int .i64 (k : Int) ∧ OwnB wr w6.heap.size 5 v (M4 ++ toksB z1 z2 (ts.take k)).length (bitBytes (M4 ++ toksB z1 z2 (ts.take k))) ∧ Below w6.heap.size w6 wr)
  case atStart => exact ⟨0, by omega, rfl, by rw [HM0.out]; exact HROW0.out, HB9.out⟩
  case round =>
    obtain ⟨k, hkg, rfl, hrow, hbel⟩ := hrel
    obtain ⟨A3, c3, rfl⟩ := own_form hrow
    have HBEL := Lib.hid hbel
    have htb := HTOK.out k
    have hm4 := HM4L.out
    obtain ⟨M3, hM3⟩ : ∃ M3, M4 ++ toksB z1 z2 (ts.take k) = M3 := ⟨_, rfl⟩
    have hlen : M3.length ≤ 4000000 := by rw [← hM3, List.length_append]; omega
    rw [hM3] at hrow
    rw [hM3]
    obtain ⟨m3, hm3⟩ : ∃ m3, M3.length = m3 := ⟨_, rfl⟩
    have HM3L := Lib.hid hm3
    rw [hm3] at hrow hlen
    rw [hm3]
    have HROW := Lib.hid hrow
    have HM3 := Lib.hid hM3
    clear hrow hbel htb hm4 HROW0 HB9 hm3 hM3
    by_cases hkl : k < l
    · obtain ⟨t, ht⟩ : ∃ t, ts[k]? = some t := ⟨_, List.getElem?_eq_getElem (by rw [HL.out]; exact hkl)⟩
      have hin := List.mem_of_getElem? ht
      have hok := HK.out t hin
      have HSP := Lib.hid (fun W => rsplitT_any t W hok)
      have hc1 := cls1_lt hok
      have hc2 := cls2_lt hok
      have HX1 := Lib.hid (HH1.out t hin)
      have HX2 := Lib.hid (HH2.out t hin)
      have HTO : Hid (M4 ++ toksB z1 z2 (ts.take (k + 1)) = M3 ++ (clsB z1 (cls1 t) ++ (if isM t then clsB z2 (cls2 t) else []))) := by
        show _ = _
        rw [← HM3.out, List.append_assoc]
        congr 1
        rw [List.take_add_one, ht]
        exact toksB_snoc z1 z2 (ts.take k) t
      obtain ⟨b, o, rfl, hbB, v0, v1, v2⟩ := ((HC.out k t ht).below HWB.out).below HBEL.out
      obtain ⟨⟨n1, b1, x1⟩, hq1⟩ : ∃ q, cls1 t = q := ⟨_, rfl⟩
      obtain ⟨⟨n2, b2, x2⟩, hq2⟩ : ∃ q, cls2 t = q := ⟨_, rfl⟩
      rw [hq1] at HSP HTO hc1 HX1
      rw [hq2] at HSP HTO hc2 HX2
      obtain ⟨m, hmm⟩ : ∃ m, isM t = m := ⟨_, rfl⟩
      rw [hmm] at HSP HTO HX2
      dsimp only at HSP hc1 hc2 HX1 HX2
      have hcl1 := clsB_len HR1.out (c := (n1, b1, x1)) hc1.2.1
      have hcl2 := clsB_len HR2.out (c := (n2, b2, x2)) hc2.2.1
      clear ht hin hok hq1 hq2 hmm hbB
      cases m with
      | true =>
        obtain ⟨y1, hy1, hp1⟩ := HX1.out
        obtain ⟨y2, hy2, hp2⟩ := HX2.out rfl
        have HBB2 : Hid (∀ W, Below w6.heap.size w6 W → _) := fun W hW => HBT2.out W (n2, b2, x2) y2 hW hy2 hp2 hc2.2.1 hc2.2.2
        obtain ⟨Q2, hQ2⟩ : ∃ Q2, clsB z2 (n2, b2, x2) = Q2 := ⟨_, rfl⟩
        rw [hQ2] at HTO HBB2 hcl2
        dsimp only at HBB2
        clear hy2 hp2 hQ2
        have HLF : Hid ((M4 ++ toksB z1 z2 (ts.take (k + 1))).length = m3 + (clsB z1 (n1, b1, x1)).length + Q2.length) := by show _ = _; rw [HTO.out]; simp only [if_true, List.length_append]; rw [HM3L.out]; omega
        have HBF : Hid (byteCells (bitBytes (M4 ++ toksB z1 z2 (ts.take (k + 1)))) = byteCells (bitBytes M3) ++ (byteCells (bitBytes (clsB z1 (n1, b1, x1))) ++ byteCells (bitBytes Q2))) := by show _ = _; rw [HTO.out]; simp only [if_true, bitBytes_append, byteCells_append]
        have HBB1 : Hid (∀ W, Below w6.heap.size w6 W → _) := fun W hW => HBT1.out W (n1, b1, x1) y1 hW hy1 hp1 hc1.2.1 hc1.2.2
        obtain ⟨Q1, hQ1⟩ : ∃ Q1, clsB z1 (n1, b1, x1) = Q1 := ⟨_, rfl⟩
        rw [hQ1] at HLF HBF HBB1 hcl1
        dsimp only at HBB1
        clear hy1 hp1 hQ1
        go_upto_region 9 with (go_at_call 119; refine (HSP.out _).mono ?_; rintro e w4 ⟨rfl, hb4⟩; unfold agC; obtain ⟨W5, hW5⟩ : ∃ W5, (w4.alloc (.cells #[.int .i64 (n1 : Int), .int .i64 (b1 : Int), .int .u32 (x1 : Int)] 181)).alloc (.cells #[.int .i64 (n2 : Int), .int .i64 (b2 : Int), .int .u32 (x2 : Int)] 181) = W5 := ⟨_, rfl⟩; have hb6 : Below wr.heap.size wr W5 := (by rw [← hW5]; exact (hb4.alloc hb4.size _).alloc (by have := hb4.size; simp; omega) _); have hx5 : W5.heap[w4.heap.size]? = some (.cells #[.int .i64 (n1 : Int), .int .i64 (b1 : Int), .int .u32 (x1 : Int)] 181 (0, 0)) := (by rw [← hW5]; exact (Below.heap_alloc _ _ _ (by simp)).trans (heap_alloc_new w4 _)); have hy5 : W5.heap[w4.heap.size + 1]? = some (.cells #[.int .i64 (n2 : Int), .int .i64 (b2 : Int), .int .u32 (x2 : Int)] 181 (0, 0)) := (by rw [← hW5]; have h := heap_alloc_new (w4.alloc (.cells #[.int .i64 (n1 : Int), .int .i64 (b1 : Int), .int .u32 (x1 : Int)] 181)) (.cells #[.int .i64 (n2 : Int), .int .i64 (b2 : Int), .int .u32 (x2 : Int)] 181); rw [World.size_alloc] at h; exact h); have hs4 : wr.heap.size ≤ w4.heap.size := hb4.size; have HW5 := Lib.hid hW5; clear hW5 hb4)
        rw [HW5.out]
        have HB5 := Lib.hid (HBEL.out.trans (hb6.mono HBEL.out.size))
        have HROW5 := Lib.hid (own_keep HROW.out (Mod.of_below hb6) (fun _ _ h => h))
        have HY5 := Lib.hid hy5
        have r0 : W5.cell? ⟨w4.heap.size, 0, none⟩ = some (.int .i64 (n1 : Int)) := cell_of_row _ _ 0 _ _ _ hx5
        have r1 : W5.cell? ⟨w4.heap.size, 1, none⟩ = some (.int .i64 (b1 : Int)) := cell_of_row _ _ 1 _ _ _ hx5
        have r2 : W5.cell? ⟨w4.heap.size, 2, none⟩ = some (.int .u32 (x1 : Int)) := cell_of_row _ _ 2 _ _ _ hx5
        have HLT : Hid (∀ j, ownS (.slice A3 m3 c3) j → j < wr.heap.size) := fun j hj => (HROW.out.lt j hj).2
        clear hb6 hx5 hy5 HW5
        go_wp2_with (first
          | (go_at_call 120; refine (HBB1.out W5 HB5.out).mono ?_; rintro e w7 ⟨A7, c7, rfl, ho7, hb7⟩; clear HBB1; have HO7 := Lib.hid (Cells.of_own ho7); have HROW7 := Lib.hid (own_keep HROW5.out (Mod.of_below hb7) (fun _ _ h => h)); have HB7 := Lib.hid (HB5.out.trans (hb7.mono HB5.out.size)); have HY7 := Lib.hid ((hb7.block _ (Array.getElem?_eq_some_iff.1 HY5.out).1).trans HY5.out); clear ho7 hb7)
          | (at_builtin; refine wpList_app w7 byteElem3 rfl (.tmp 47) (.tmp 51) rfl w6.heap.size (.slice A3 m3 c3) m3 (byteCells (bitBytes M3)) rfl HROW7.out w7.heap.size A7 Q1.length c7 (byteCells (bitBytes Q1)) rfl (by rw [byteCells_length, bitBytes_length, Nat.mul_one]) HO7.out (byteCells_one _) (by unfold maxLen; omega) (by omega) HB7.out.size ?_; intro A8 c8 w8 hA; have HA := Lib.hid hA; have HB8 := Lib.hid (hA.below HB7.out HB7.out.size (own_base HROW7.out)); have hy8 := (Mod.of_app hA).keep HY7.out (fun h => by have := HLT.out _ h; omega); have r3 : w8.cell? ⟨w4.heap.size + 1, 0, none⟩ = some (.int .i64 (n2 : Int)) := cell_of_row _ _ 0 _ _ _ hy8; have r4 : w8.cell? ⟨w4.heap.size + 1, 1, none⟩ = some (.int .i64 (b2 : Int)) := cell_of_row _ _ 1 _ _ _ hy8; have r5 : w8.cell? ⟨w4.heap.size + 1, 2, none⟩ = some (.int .u32 (x2 : Int)) := cell_of_row _ _ 2 _ _ _ hy8; clear hA hy8)
          | (go_at_call 120; refine (HBB2.out w8 HB8.out).mono ?_; rintro e w9 ⟨A9, c9, rfl, ho9, hb9⟩; have HO9 := Lib.hid (Cells.of_own ho9); have HROW9 := Lib.hid (own_keep HA.out.own (Mod.of_below hb9) (fun _ _ h => h)); have HB9 := Lib.hid (HB8.out.trans (hb9.mono HB8.out.size)); clear ho9 hb9)
          | (at_builtin; refine wpList_app w9 byteElem3 rfl (.tmp 54) (.tmp 58) rfl w6.heap.size (.slice A8 (m3 + Q1.length) c8) (m3 + Q1.length) (byteCells (bitBytes M3) ++ byteCells (bitBytes Q1)) rfl HROW9.out w9.heap.size A9 Q2.length c9 (byteCells (bitBytes Q2)) rfl (by rw [byteCells_length, bitBytes_length, Nat.mul_one]) HO9.out (byteCells_one _) (by unfold maxLen; omega) (by omega) HB9.out.size ?_; intro A10 c10 w10 hA; have HA10 := Lib.hid hA; clear hA))
        go_roundg (gk - 1)
        case measure => omega
        case rel =>
          refine ⟨k + 1, by omega, by go_num, ?_, HA10.out.below HB9.out HB9.out.size (own_base HROW9.out)⟩
          have h := HA10.out.own
          rw [List.append_assoc] at h
          rw [HLF.out]
          unfold OwnB
          rw [HBF.out]
          exact h
      | false =>
        obtain ⟨y1, hy1, hp1⟩ := HX1.out
        have HLF : Hid ((M4 ++ toksB z1 z2 (ts.take (k + 1))).length = m3 + (clsB z1 (n1, b1, x1)).length) := by show _ = _; rw [HTO.out]; simp only [Bool.false_eq_true, if_false, List.append_nil, List.length_append]; rw [HM3L.out]
        have HBF : Hid (byteCells (bitBytes (M4 ++ toksB z1 z2 (ts.take (k + 1)))) = byteCells (bitBytes M3) ++ byteCells (bitBytes (clsB z1 (n1, b1, x1)))) := by show _ = _; rw [HTO.out]; simp only [Bool.false_eq_true, if_false, List.append_nil, bitBytes_append, byteCells_append]
        have HBB1 : Hid (∀ W, Below w6.heap.size w6 W → _) := fun W hW => HBT1.out W (n1, b1, x1) y1 hW hy1 hp1 hc1.2.1 hc1.2.2
        obtain ⟨Q1, hQ1⟩ : ∃ Q1, clsB z1 (n1, b1, x1) = Q1 := ⟨_, rfl⟩
        rw [hQ1] at HLF HBF HBB1 hcl1
        dsimp only at HBB1
        clear hy1 hp1 hQ1
        go_upto_region 9 with (go_at_call 119; refine (HSP.out _).mono ?_; rintro e w4 ⟨rfl, hb4⟩; unfold agC; obtain ⟨W5, hW5⟩ : ∃ W5, (w4.alloc (.cells #[.int .i64 (n1 : Int), .int .i64 (b1 : Int), .int .u32 (x1 : Int)] 181)).alloc (.cells #[.int .i64 (n2 : Int), .int .i64 (b2 : Int), .int .u32 (x2 : Int)] 181) = W5 := ⟨_, rfl⟩; have hb6 : Below wr.heap.size wr W5 := (by rw [← hW5]; exact (hb4.alloc hb4.size _).alloc (by have := hb4.size; simp; omega) _); have hx5 : W5.heap[w4.heap.size]? = some (.cells #[.int .i64 (n1 : Int), .int .i64 (b1 : Int), .int .u32 (x1 : Int)] 181 (0, 0)) := (by rw [← hW5]; exact (Below.heap_alloc _ _ _ (by simp)).trans (heap_alloc_new w4 _)); have hy5 : W5.heap[w4.heap.size + 1]? = some (.cells #[.int .i64 (n2 : Int), .int .i64 (b2 : Int), .int .u32 (x2 : Int)] 181 (0, 0)) := (by rw [← hW5]; have h := heap_alloc_new (w4.alloc (.cells #[.int .i64 (n1 : Int), .int .i64 (b1 : Int), .int .u32 (x1 : Int)] 181)) (.cells #[.int .i64 (n2 : Int), .int .i64 (b2 : Int), .int .u32 (x2 : Int)] 181); rw [World.size_alloc] at h; exact h); have hs4 : wr.heap.size ≤ w4.heap.size := hb4.size; have HW5 := Lib.hid hW5; clear hW5 hb4)
        rw [HW5.out]
        have HB5 := Lib.hid (HBEL.out.trans (hb6.mono HBEL.out.size))
        have HROW5 := Lib.hid (own_keep HROW.out (Mod.of_below hb6) (fun _ _ h => h))
        have HY5 := Lib.hid hy5
        have r0 : W5.cell? ⟨w4.heap.size, 0, none⟩ = some (.int .i64 (n1 : Int)) := cell_of_row _ _ 0 _ _ _ hx5
        have r1 : W5.cell? ⟨w4.heap.size, 1, none⟩ = some (.int .i64 (b1 : Int)) := cell_of_row _ _ 1 _ _ _ hx5
        have r2 : W5.cell? ⟨w4.heap.size, 2, none⟩ = some (.int .u32 (x1 : Int)) := cell_of_row _ _ 2 _ _ _ hx5
        have HLT : Hid (∀ j, ownS (.slice A3 m3 c3) j → j < wr.heap.size) := fun j hj => (HROW.out.lt j hj).2
        clear hb6 hx5 hy5 HW5
        go_wp2_with (first
          | (go_at_call 120; refine (HBB1.out W5 HB5.out).mono ?_; rintro e w7 ⟨A7, c7, rfl, ho7, hb7⟩; clear HBB1; have HO7 := Lib.hid (Cells.of_own ho7); have HROW7 := Lib.hid (own_keep HROW5.out (Mod.of_below hb7) (fun _ _ h => h)); have HB7 := Lib.hid (HB5.out.trans (hb7.mono HB5.out.size)); have HY7 := Lib.hid ((hb7.block _ (Array.getElem?_eq_some_iff.1 HY5.out).1).trans HY5.out); clear ho7 hb7)
          | (at_builtin; refine wpList_app w7 byteElem3 rfl (.tmp 47) (.tmp 51) rfl w6.heap.size (.slice A3 m3 c3) m3 (byteCells (bitBytes M3)) rfl HROW7.out w7.heap.size A7 Q1.length c7 (byteCells (bitBytes Q1)) rfl (by rw [byteCells_length, bitBytes_length, Nat.mul_one]) HO7.out (byteCells_one _) (by unfold maxLen; omega) (by omega) HB7.out.size ?_; intro A8 c8 w8 hA; have HA := Lib.hid hA; have HB8 := Lib.hid (hA.below HB7.out HB7.out.size (own_base HROW7.out)); have hy8 := (Mod.of_app hA).keep HY7.out (fun h => by have := HLT.out _ h; omega); have r3 : w8.cell? ⟨w4.heap.size + 1, 0, none⟩ = some (.int .i64 (n2 : Int)) := cell_of_row _ _ 0 _ _ _ hy8; have r4 : w8.cell? ⟨w4.heap.size + 1, 1, none⟩ = some (.int .i64 (b2 : Int)) := cell_of_row _ _ 1 _ _ _ hy8; have r5 : w8.cell? ⟨w4.heap.size + 1, 2, none⟩ = some (.int .u32 (x2 : Int)) := cell_of_row _ _ 2 _ _ _ hy8; clear hA hy8))
        go_roundg (gk - 1)
        case measure => omega
        case rel =>
          refine ⟨k + 1, by omega, by go_num, ?_, HB8.out⟩
          have h := HA.out.own
          rw [HLF.out]
          unfold OwnB
          rw [HBF.out]
          exact h
    · obtain rfl : k = l := by omega
      rw [show ts.take k = ts from List.take_of_length_le (by rw [HL.out]; exact Nat.le_refl _)] at HM3
      obtain ⟨x, hx, h0⟩ := HE1.out
      have h9 := HBT1.out wr (256, 0, 0) x HBEL.out hx h0 (by decide) (by decide)
      have hcl := clsB_len HR1.out (c := (256, 0, 0)) (by decide)
      have HSY : Hid (clsB z1 (256, 0, 0) = symB z1 256) := by show _ = _; unfold clsB; simp [bitsOf]
      have HFIN : Hid (M4 ++ toksB z1 z2 ts ++ symB z1 256 = M3 ++ clsB z1 (256, 0, 0)) := by show _ = _; rw [HSY.out, HM3.out]
      obtain ⟨M5, hM5⟩ : ∃ M5, clsB z1 (256, 0, 0) = M5 := ⟨_, rfl⟩
      rw [hM5] at h9 HFIN hcl
      have HR9 : Hid (Calls Tryz.prog 120 #[.slice (some ⟨gl1, 0, none⟩) 273 273, .slice (some ⟨gv1, 0, none⟩) 273 273, .agg #[.int .i64 256, .int .i64 0, .int .u32 0]] wr _) := h9
      have HM3L' := HM3L.out
      have HLF : Hid ((M4 ++ toksB z1 z2 ts ++ symB z1 256).length = m3 + M5.length) := by show _ = _; rw [HFIN.out, List.length_append, HM3L.out]
      have HBF : Hid (byteCells (bitBytes (M4 ++ toksB z1 z2 ts ++ symB z1 256)) = byteCells (bitBytes M3) ++ byteCells (bitBytes M5)) := by show _ = _; rw [HFIN.out, bitBytes_append, byteCells_append]
      clear hx h0 h9 hM5 HM3L'
      go_wp2_with (first
        | (go_at_call 120; refine HR9.out.mono ?_; rintro e w7 ⟨A7, c7, rfl, ho7, hb7⟩; have HO7 := Lib.hid (Cells.of_own ho7); have HROW7 := Lib.hid (own_keep HROW.out (Mod.of_below hb7) (fun _ _ h => h)); have HB7 := Lib.hid (HBEL.out.trans (hb7.mono HBEL.out.size)); clear ho7 hb7)
        | (at_builtin; refine wpList_app w7 byteElem3 rfl (.tmp 60) (.tmp 64) rfl w6.heap.size (.slice A3 m3 c3) m3 (byteCells (bitBytes M3)) rfl HROW7.out w7.heap.size A7 M5.length c7 (byteCells (bitBytes M5)) rfl (by rw [byteCells_length, bitBytes_length, Nat.mul_one]) HO7.out (byteCells_one _) (by unfold maxLen; omega) (by omega) HB7.out.size ?_; intro A8 c8 w8 hA; have HA := Lib.hid hA; clear hA))
      go_ret
      refine ⟨A8, c8, by rw [HLF.out]; rfl, ?_, HWB.out.trans ((HA.out.below HB7.out HB7.out.size (own_base HROW7.out)).mono HWB.out.size)⟩
      rw [HLF.out]
      unfold OwnB
      rw [HBF.out]
      exact own_leP HA.out.own HWB.out.size
end Go.Proofs.YtaknladkodibaaaGreatDoor
/- Layer 14: a payload is made. -/
namespace Go.Proofs.YtaknladkodibaaaGreatDoor
open Go.RowKit BitsP SymP
attribute [local go_sem ↓] Go.wp_at_zero Go.wp_at_succ

/-- What a payload is packed to, and what it is: method and bytes. -/
def pkB (lv : Int) (bs : List UInt8) : List UInt8 := pack (blkB (toks bs lv 0))
def pkM (lv : Int) (bs : List UInt8) : Int × List UInt8 := if lv < 0 then (0, bs) else if (pkB lv bs).length < bs.length then (1, pkB lv bs) else (0, bs)
theorem tkAt_wr {w : World} {A : Option Addr} {k q : Nat} {y l d : Int} (h : TkAt w A k y l d) (hq : w.heap[q]? = some (.cells zeroWr 114 (0, 0))) : ∀ a, A = some a → a.block ≠ q := fun a ha he => by
  obtain ⟨b, o, h1, _, h3, _⟩ := h
  rw [h1] at ha
  cases ha
  have hb : b = q := he
  subst hb
  rw [show w.cell? ⟨b, o + k * 3, none⟩ = zeroWr[o + k * 3]? from cell_of_row w b (o + k * 3) _ _ _ hq] at h3
  generalize o + k * 3 = m at h3
  match m, h3 with
  | 0, h3 => simp [zeroWr] at h3
  | 1, h3 => simp [zeroWr] at h3
  | 2, h3 => simp [zeroWr] at h3
  | m + 3, h3 => simp [zeroWr] at h3
set_option maxRecDepth 100000 in
set_option maxHeartbeats 1000000 in
theorem pack14_any (A : Option Addr) (l c : Nat) (bs : List UInt8) (lv : Int) (w : World) (hl : bs.length = l) (hm : l ≤ 32000) (hcap : l ≤ c) (hb : Bytes w w.heap.size A bs) :
    Calls Tryz.prog 31 #[.slice A l c, .int .i64 lv] w fun e w' => ∃ A' c', e = .returned (.tuple #[.int .i64 (pkM lv bs).1, .slice A' (pkM lv bs).2.length c', .int .i64 0]) ∧ OwnB w' w.heap.size 5 (.slice A' (pkM lv bs).2.length c') (pkM lv bs).2.length (pkM lv bs).2 ∧ Below w.heap.size w w' := by
  have t0 : decide ((65536 : Int) < (l : Int)) = false := decide_eq_false (by omega)
  have HLL := Lib.hid hl
  by_cases hlv : lv < 0
  · have HE : Hid (pkM lv bs = (0, bs)) := by show _ = _; unfold pkM; rw [if_pos hlv]
    have HC := Lib.hid (clone_any A l c w.heap.size bs w hl (by omega) (Nat.le_refl _) hb)
    have t1 : decide (0 ≤ lv) = false := decide_eq_false (by omega)
    rw [HE.out]
    dsimp only
    rw [hl]
    clear hl hb hlv
    go_enter Tryz.func31, Tryz.ntmps31
    go_wp2_with (go_at_call 68; refine HC.out.mono ?_; rintro e w2 ⟨A2, c2, rfl, hown2, hb2⟩; have HO2 := Lib.hid hown2; have HB2 := Lib.hid hb2; clear hown2 hb2)
    exact bodyPost_ret (results_tmp3 rfl _ _ _) rfl ⟨A2, c2, rfl, HO2.out, HB2.out⟩
  · have t1 : decide (0 ≤ lv) = true := decide_eq_true (by omega)
    have hok := toks_okT bs lv bs.length 0 (by omega)
    have hfew := toks_few bs lv
    have hb1 : Below w.heap.size w (w.alloc (.cells zeroWr 114)) := (Below.refl _ w).alloc (Nat.le_refl _) _
    have HB1 := Lib.hid hb1
    have HSP := Lib.hid (split_any A l c bs lv (w.alloc (.cells zeroWr 114)) hl hm hcap ((hb.below hb1 (Nat.le_refl _)).more hb1.size))
    have HWZ : Hid (∀ W, Below (w.alloc (.cells zeroWr 114)).heap.size (w.alloc (.cells zeroWr 114)) W → W.heap[w.heap.size]? = some (.cells zeroWr 114 (0, 0))) := fun W hW => (hW.block _ (by simp)).trans (heap_alloc_new w _)
    obtain ⟨ts, hts⟩ : ∃ ts, toks bs lv 0 = ts := ⟨_, rfl⟩
    have HPE : Hid (pkB lv bs = pack (blkB ts)) := by show _ = _; rw [pkB, hts]
    rw [hts] at hok hfew HSP
    have hfewB := blkB_few hok
    have HPT : Hid (∀ (W : World) (A2 : Option Addr) (c2 : Nat), Cells W W.heap.size A2 (ts.map tkC).flatten → Below (w.alloc (.cells zeroWr 114)).heap.size (w.alloc (.cells zeroWr 114)) W → _) := fun W A2 c2 hc hW =>
      blkput_any A2 ts.length c2 w.heap.size w.heap.size ts (oneB w.heap.size) [] W rfl (by omega) hok (toksOf_tk hok hc).2.1 (fun h0 a ha hk => by
        obtain ⟨t, ht⟩ : ∃ t, ts[0]? = some t := ⟨_, List.getElem?_eq_getElem h0⟩
        exact tkAt_wr ((toksOf_tk hok hc).2.1 0 t ht) (HWZ.out W hW) a ha hk) (WrS.zero _ (HWZ.out W hW)) (by simp) (by have := hW.size; simp at this; omega)
    have hPL : (pack (blkB ts)).length ≤ (blkB ts).length := pack_length _
    obtain ⟨P, hP⟩ : ∃ P, pack (blkB ts) = P := ⟨_, rfl⟩
    have HPP := Lib.hid hP
    rw [hP] at HPE hPL
    have hpl : P.length ≤ 3000000 := by omega
    have hbl : (blkB ts).length ≤ 3000000 := by omega
    have HBLL := Lib.hid hbl
    obtain ⟨k, hk⟩ : ∃ k, ts.length = k := ⟨_, rfl⟩
    rw [hk] at HSP HPT
    obtain ⟨pl, hpl2⟩ : ∃ pl, P.length = pl := ⟨_, rfl⟩
    have HPL := Lib.hid hpl2
    rw [hpl2] at hpl
    have HC : Hid (∀ W, Below w.heap.size w W → _) := fun W hW => clone_any A l c W.heap.size bs W hl (by omega) (Nat.le_refl _) ((hb.below hW (Nat.le_refl _)).more hW.size)
    unfold zeroWr at HSP HPT HB1
    by_cases hlt : pl < l
    · have HE : Hid (pkM lv bs = (1, P)) := by show _ = _; unfold pkM; rw [if_neg hlv, HPE.out, if_pos (by rw [HPL.out, HLL.out]; exact hlt)]
      rw [HE.out]
      dsimp only
      rw [HPL.out]
      have t2 : decide ((pl : Int) < (l : Int)) = true := decide_eq_true (by omega)
      have t2n : decide (pl < l) = true := decide_eq_true hlt
      clear hl hb hlv hok hfew hb1 hts hfewB hP hk hpl2 hlt hPL hbl
      go_enter Tryz.func31, Tryz.ntmps31
      go_wp2_with (first
        | (go_at_call 66; refine HSP.out.mono ?_; rintro e w2 ⟨A2, c2, rfl, hc2, hb2⟩; have HB2 := Lib.hid (HB1.out.trans (hb2.mono HB1.out.size)); have HPU := Lib.hid (HPT.out w2 A2 c2 hc2 hb2); rw [List.nil_append] at HPU; clear hc2 hb2)
        | (go_at_call 65; refine HPU.out.mono ?_; rintro e w3 ⟨rfl, S3, hw3, hm3, hs3⟩; have HW3 := Lib.hid hw3; have HB3 := Lib.hid (hm3.below HB2.out HB2.out.size (fun k hk => by cases hk; exact Nat.le_refl _)); clear hw3 hm3 hs3)
        | (go_at_call 67; refine (wbytes_any w.heap.size w.heap.size S3 (blkB ts) w3 HW3.out (by have := HBLL.out; omega)).mono ?_; rintro e w5 ⟨A5, c5, rfl, hown, hbel⟩; rw [HPP.out, HPL.out] at hown; rw [HPP.out, HPL.out]; have HO5 := Lib.hid (own_leP hown HB3.out.size); have HB5 := Lib.hid (HB3.out.trans (hbel.mono HB3.out.size)); clear hown hbel))
      exact bodyPost_ret (results_tmp3 rfl _ _ _) rfl ⟨A5, c5, rfl, HO5.out, HB5.out⟩
    · have HE : Hid (pkM lv bs = (0, bs)) := by show _ = _; unfold pkM; rw [if_neg hlv, HPE.out, if_neg (by rw [HPL.out, HLL.out]; exact hlt)]
      rw [HE.out]
      dsimp only
      rw [HLL.out]
      have t2 : decide ((pl : Int) < (l : Int)) = false := decide_eq_false (by omega)
      have t2n : decide (pl < l) = false := decide_eq_false hlt
      clear hl hb hlv hok hfew hb1 hts hfewB hP hk hpl2 hlt hPL hbl
      go_enter Tryz.func31, Tryz.ntmps31
      go_wp2_with (first
        | (go_at_call 66; refine HSP.out.mono ?_; rintro e w2 ⟨A2, c2, rfl, hc2, hb2⟩; have HB2 := Lib.hid (HB1.out.trans (hb2.mono HB1.out.size)); have HPU := Lib.hid (HPT.out w2 A2 c2 hc2 hb2); rw [List.nil_append] at HPU; clear hc2 hb2)
        | (go_at_call 65; refine HPU.out.mono ?_; rintro e w3 ⟨rfl, S3, hw3, hm3, hs3⟩; have HW3 := Lib.hid hw3; have HB3 := Lib.hid (hm3.below HB2.out HB2.out.size (fun k hk => by cases hk; exact Nat.le_refl _)); clear hw3 hm3 hs3)
        | (go_at_call 67; refine (wbytes_any w.heap.size w.heap.size S3 (blkB ts) w3 HW3.out (by have := HBLL.out; omega)).mono ?_; rintro e w5 ⟨A5, c5, rfl, hown, hbel⟩; rw [HPP.out, HPL.out]; have HB5 := Lib.hid (HB3.out.trans (hbel.mono HB3.out.size)); clear hown hbel)
        | (go_at_call 68; refine (HC.out _ HB5.out).mono ?_; rintro e w6 ⟨A6, c6, rfl, hown6, hb6⟩; have HO6 := Lib.hid (own_leP hown6 HB5.out.size); have HB6 := Lib.hid (HB5.out.trans (hb6.mono HB5.out.size)); clear hown6 hb6))
      exact bodyPost_ret (results_tmp3 rfl _ _ _) rfl ⟨A6, c6, rfl, HO6.out, HB6.out⟩
end Go.Proofs.YtaknladkodibaaaGreatDoor
