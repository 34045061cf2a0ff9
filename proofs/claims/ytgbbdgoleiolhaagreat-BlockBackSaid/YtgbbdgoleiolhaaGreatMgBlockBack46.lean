/- Layer 13: how often symbols are there. -/
import Derived.Test.YtgbbdgoleiolhaaGreatMgBlockBack41
import Derived.Test.YtgbbdgoleiolhaaGreatMgBlockBack27
import Derived.Test.YtgbbdgoleiolhaaGreatMgBlockBack45
import Derived.Deep.RegionWith
import Derived.Test.YtgbbdgoleiolhaaGreatMgBlockBack10
import Derived.Test.YtgbbdgoleiolhaaGreatMgBlockBackSBkBkP
import Derived.Test.YtgbbdgoleiolhaaGreatMgBlockBackSBkTkP
import Derived.Test.YtgbbdgoleiolhaaGreatMgBlockBackSSymLeaf
namespace Go.Proofs.YtgbbdgoleiolhaaGreat
open Go.RowKit BitsP SymP

/-- A token's symbols, of the program. -/
theorem splitT_any (t : Tk) (w : World) (h : okT t) :
    Calls Tryz.prog 24 #[.agg #[.int .u8 (t.1.toNat : Int), .int .i64 (t.2.1 : Int), .int .i64 (t.2.2 : Int)]] w fun e w' => e = .returned (.tuple #[agR ((cls1 t).1 : Nat) ((cls1 t).2.1 : Nat) ((cls1 t).2.2 : Nat) ((cls2 t).1 : Nat) ((cls2 t).2.1 : Nat) ((cls2 t).2.2 : Nat) (isM t), .bool true]) ∧ Below w.heap.size w w' := by
  obtain ⟨y, l, d⟩ := t
  rcases h with ⟨h1, h2⟩ | ⟨h1, h2, h3, h4, h5⟩
  · dsimp only at h1 h2
    subst h1 h2
    have e1 : cls1 (y, 0, 0) = (y.toNat, 0, 0) := by unfold cls1; rw [if_pos rfl]
    have e2 : cls2 (y, 0, 0) = (0, 0, 0) := by unfold cls2; rw [if_pos rfl]
    have e3 : isM (y, 0, 0) = false := by unfold isM; simp
    rw [e1, e2, e3]
    exact split_byte y.toNat w y.toNat_lt
  · dsimp only at h1 h2 h3 h4 h5
    subst h5
    obtain ⟨l', rfl⟩ : ∃ l', l = l' + 3 := ⟨l - 3, by omega⟩
    obtain ⟨d', rfl⟩ : ∃ d', d = d' + 1 := ⟨d - 1, by omega⟩
    have e1 : cls1 (0, l' + 3, d' + 1) = (classC l' + 257, bitsC (classC l'), l' % 2 ^ bitsC (classC l')) := by unfold cls1; rw [if_neg (by dsimp only; omega)]; rfl
    have e2 : cls2 (0, l' + 3, d' + 1) = (classC d', bitsC (classC d'), d' % 2 ^ bitsC (classC d')) := by unfold cls2; rw [if_neg (by dsimp only; omega)]; rfl
    have e3 : isM (0, l' + 3, d' + 1) = true := by unfold isM; simp
    rw [e1, e2, e3]
    exact split_match l' d' w (by omega) (by omega)
/-- Tokens in memory, and what stands behind them. -/
def TkAt (w : World) (A : Option Addr) (k : Nat) (y l d : Int) : Prop := ∃ b o, A = some ⟨b, o, none⟩ ∧ b < w.heap.size ∧ w.cell? ⟨b, o + k * 3, none⟩ = some (.int .u8 y) ∧ w.cell? ⟨b, o + k * 3 + 1, none⟩ = some (.int .i64 l) ∧ w.cell? ⟨b, o + k * 3 + 2, none⟩ = some (.int .i64 d)
theorem TkAt.below {w W : World} {A : Option Addr} {k : Nat} {y l d : Int} (h : TkAt w A k y l d) (hb : Below w.heap.size w W) : TkAt W A k y l d := by
  obtain ⟨b, o, h1, h2, h3, h4, h5⟩ := h
  exact ⟨b, o, h1, Nat.lt_of_lt_of_le h2 hb.size, (hb.cell (p := ⟨b, o + k * 3, none⟩) h2).trans h3, (hb.cell (p := ⟨b, o + k * 3 + 1, none⟩) h2).trans h4, (hb.cell (p := ⟨b, o + k * 3 + 2, none⟩) h2).trans h5⟩
theorem weights_big (A : Option Addr) (l c : Nat) (w : World) (h : 65536 < l) (hm : l ≤ 9223372036854775807) :
    Calls Tryz.prog 22 #[.slice A l c] w fun e w' => e = .returned (.tuple #[.slice none 0 0, .slice none 0 0, .bool false]) ∧ Below w.heap.size w w' := by
  go_enter Tryz.func22, Tryz.ntmps22
  go_wp2
  exact bodyPost_ret (results_tmp3 rfl _ _ _) rfl ⟨rfl, Below.refl _ _⟩
theorem make_zeros (n : Nat) (hn : n ≤ 1000000) (W : World) : (Instr.makeSlice 53 (.int .i64 (n : Int)) (.int .i64 (n : Int))).run Tryz.prog W = .ok (.slice (some ⟨W.heap.size, 0, none⟩) n n) (W.alloc (.cells (madeCells #[.int .i64 0] n) 3)) := make_ints n hn W
set_option maxRecDepth 100000 in
set_option maxHeartbeats 4000000 in
theorem weights_gen (A : Option Addr) (l c : Nat) (ts : List Tk) (w : World) (hm : l ≤ 65536) (hk : ∀ t ∈ ts, okT t) (hc : ∀ k t, ts[k]? = some t → TkAt w A k (t.1.toNat : Int) (t.2.1 : Int) (t.2.2 : Int)) (hend : ts.length = l ∨ (ts.length < l ∧ ∃ y ln d, TkAt w A ts.length y ln d ∧ rightT y ln d = false)) :
    Calls Tryz.prog 22 #[.slice A l c] w fun e w' => Below w.heap.size w w' ∧ ((ts.length < l ∧ e = .returned (.tuple #[.slice none 0 0, .slice none 0 0, .bool false])) ∨
      (ts.length = l ∧ ∃ g1 g2, e = .returned (.tuple #[.slice (some ⟨g1, 0, none⟩) 273 273, .slice (some ⟨g2, 0, none⟩) 30 30, .bool true]) ∧ NB w' g1 (wt1 ts) ∧ NB w' g2 (wt2 ts) ∧ w.heap.size ≤ g1 ∧ w.heap.size ≤ g2)) := by
  obtain ⟨n, hn⟩ : ∃ n, ts.length = n := ⟨_, rfl⟩
  have HN := Lib.hid hn
  have HK := Lib.hid hk
  have HC := Lib.hid hc
  rw [hn] at hend ⊢
  have HEND := Lib.hid hend
  have hnl : n ≤ l := by rcases hend with h | ⟨h, _⟩ <;> omega
  have mk1 : ∀ W, (Instr.makeSlice 53 (.int .i64 273) (.int .i64 273)).run Tryz.prog W = .ok (.slice (some ⟨W.heap.size, 0, none⟩) 273 273) (W.alloc (.cells (madeCells #[.int .i64 0] 273) 3)) := fun W => make_ints 273 (by omega) W
  have mk2 : ∀ W, (Instr.makeSlice 53 (.int .i64 30) (.int .i64 30)).run Tryz.prog W = .ok (.slice (some ⟨W.heap.size, 0, none⟩) 30 30) (W.alloc (.cells (madeCells #[.int .i64 0] 30) 3)) := fun W => make_ints 30 (by omega) W
  clear hk hc hend hn
  go_enter Tryz.func22, Tryz.ntmps22
  go_upto_region 3 with fail
  go_region
  · have HZ1 : Hid (NB (((w.alloc (.cells (madeCells #[.int .i64 0] 273) 3)).alloc (.cells (madeCells #[.int .i64 0] 30) 3)).drew) w.heap.size (incW (List.replicate 273 0) (fsts (ts.take 0)))) := ((wei_made w 273).below (B := (w.alloc (.cells (madeCells #[.int .i64 0] 273) 3)).heap.size) (((Below.refl _ _).alloc (Nat.le_refl _) _).drew) (by simp))
    have HZ2 : Hid (NB (((w.alloc (.cells (madeCells #[.int .i64 0] 273) 3)).alloc (.cells (madeCells #[.int .i64 0] 30) 3)).drew) (w.heap.size + 1) (incW (List.replicate 30 0) (mts (ts.take 0)))) := (by have h := wei_made (w.alloc (.cells (madeCells #[.int .i64 0] 273) 3)) 30; rw [World.size_alloc] at h; exact h)
    have HB0 : Hid (Below w.heap.size w (((w.alloc (.cells (madeCells #[.int .i64 0] 273) 3)).alloc (.cells (madeCells #[.int .i64 0] 30) 3)).drew)) := (((Below.refl w.heap.size w).alloc (Nat.le_refl _) _).alloc (by simp) _).drew
    obtain ⟨W0, hW0⟩ : ∃ W0, ((w.alloc (.cells (madeCells #[.int .i64 0] 273) 3)).alloc (.cells (madeCells #[.int .i64 0] 30) 3)).drew = W0 := ⟨_, rfl⟩
    rw [hW0] at HZ1 HZ2 HB0 ⊢
    clear hW0 mk1 mk2
    go_wp2
    go_loopg [2, 3, 5, 17] l (fun gk s2 s3 m5 i wr => s2 = .slice (some ⟨w.heap.size, 0, none⟩) 273 273 ∧ s3 = .slice (some ⟨(w.heap.size + 1), 0, none⟩) 30 30 ∧ ∃ k : Nat, k + gk = l ∧ i = .int .i64 (k : Int) ∧ k ≤ n ∧ m5 = .int .i64 ((mts (ts.take k)).length : Nat) ∧ NB wr w.heap.size (incW (List.replicate 273 0) (fsts (ts.take k))) ∧ NB wr (w.heap.size + 1) (incW (List.replicate 30 0) (mts (ts.take k))) ∧ Below w.heap.size w wr)
    case atStart => exact ⟨rfl, rfl, 0, by omega, rfl, Nat.zero_le _, rfl, HZ1.out, HZ2.out, HB0.out⟩
    case round =>
      obtain ⟨rfl, rfl, k, hkg, rfl, hkn, rfl, hn1, hn2, hbel⟩ := hrel
      have HNB1 := Lib.hid hn1
      have HNB2 := Lib.hid hn2
      have HBEL := Lib.hid hbel
      clear hn1 hn2 hbel HZ1 HZ2 HB0
      have hml := mts_len (ts.take k)
      rw [List.length_take] at hml
      obtain ⟨mc, hmc⟩ : ∃ mc, (mts (ts.take k)).length = mc := ⟨_, rfl⟩
      have HMC := Lib.hid hmc
      rw [hmc] at hml ⊢
      clear hmc
      by_cases hkl : k < n
      · obtain ⟨t, ht⟩ : ∃ t, ts[k]? = some t := ⟨_, List.getElem?_eq_getElem (by rw [HN.out]; exact hkl)⟩
        have hok := HK.out t (List.mem_of_getElem? ht)
        have HSP := Lib.hid (fun W => splitT_any t W hok)
        have hc1 := cls1_lt hok
        have hc2 := cls2_lt hok
        have HTK : Hid (ts.take (k + 1) = ts.take k ++ [t]) := by show _ = _; rw [List.take_add_one, ht]; rfl
        have HF : Hid (fsts (ts.take (k + 1)) = fsts (ts.take k) ++ [(cls1 t).1]) := by show _ = _; rw [HTK.out, fsts_snoc]
        have HMT : Hid (mts (ts.take (k + 1)) = if isM t then mts (ts.take k) ++ [(cls2 t).1] else mts (ts.take k)) := by show _ = _; rw [HTK.out, mts_snoc]
        obtain ⟨b, o, rfl, hbB, v0, v1, v2⟩ := (HC.out k t ht).below HBEL.out
        have k1 : l ≤ 65536 := hm
        have HA1 : Hid ((incW (List.replicate 273 0) (fsts (ts.take k)))[(cls1 t).1]? = some ((fsts (ts.take k)).count (cls1 t).1)) := incW_at 273 _ hc1.1
        have HA2 : Hid ((incW (List.replicate 30 0) (mts (ts.take k)))[(cls2 t).1]? = some ((mts (ts.take k)).count (cls2 t).1)) := incW_at 30 _ hc2.1
        have HU1 : Hid (incW (List.replicate 273 0) (fsts (ts.take (k + 1))) = (incW (List.replicate 273 0) (fsts (ts.take k))).set (cls1 t).1 ((fsts (ts.take k)).count (cls1 t).1 + 1)) := by
          show _ = _
          rw [HF.out, incW_append, incW_cons, List.getD, HA1.out]
          rfl
        have HU2 : Hid (incW (List.replicate 30 0) (mts (ts.take k) ++ [(cls2 t).1]) = (incW (List.replicate 30 0) (mts (ts.take k))).set (cls2 t).1 ((mts (ts.take k)).count (cls2 t).1 + 1)) := by
          show _ = _
          rw [incW_append, incW_cons, List.getD, HA2.out]
          rfl
        have hcn1 : (fsts (ts.take k)).count (cls1 t).1 ≤ 65536 := by
          have h := List.count_le_length (a := (cls1 t).1) (l := fsts (ts.take k))
          rw [fsts_len, List.length_take] at h
          omega
        have hcn2 : (mts (ts.take k)).count (cls2 t).1 ≤ 65536 := by
          have h := List.count_le_length (a := (cls2 t).1) (l := mts (ts.take k))
          rw [HMC.out] at h
          omega
        obtain ⟨l1, hl1⟩ : ∃ l1, incW (List.replicate 273 0) (fsts (ts.take k)) = l1 := ⟨_, rfl⟩
        obtain ⟨l2, hl2⟩ : ∃ l2, incW (List.replicate 30 0) (mts (ts.take k)) = l2 := ⟨_, rfl⟩
        have HL2 := Lib.hid hl2
        rw [hl1] at HNB1 HA1 HU1
        rw [hl2] at HNB2 HA2 HU2
        obtain ⟨a1, ha1⟩ : ∃ a1, (fsts (ts.take k)).count (cls1 t).1 = a1 := ⟨_, rfl⟩
        obtain ⟨a2, ha2⟩ : ∃ a2, (mts (ts.take k)).count (cls2 t).1 = a2 := ⟨_, rfl⟩
        rw [ha1] at HA1 HU1 hcn1
        rw [ha2] at HA2 HU2 hcn2
        obtain ⟨⟨n1, b1, x1⟩, hq1⟩ : ∃ q, cls1 t = q := ⟨_, rfl⟩
        obtain ⟨⟨n2, b2, x2⟩, hq2⟩ : ∃ q, cls2 t = q := ⟨_, rfl⟩
        rw [hq1] at HSP HA1 HU1 hc1
        rw [hq2] at HSP HA2 HU2 hc2 HMT
        obtain ⟨m, hmm⟩ : ∃ m, isM t = m := ⟨_, rfl⟩
        rw [hmm] at HSP HMT
        dsimp only at HSP HA1 HU1 HA2 HU2 HMT hc1 hc2
        have hn273 := hc1.1
        have hn30 := hc2.1
        clear ht hok hl1 hl2 ha1 ha2 hq1 hq2 hmm hc1 hc2
        cases m with
        | true =>
          go_upto_region 9 with (go_at_call 24; refine (HSP.out _).mono ?_; rintro e w4 ⟨rfl, hb4⟩; unfold agR; have hb5 := ((Below.refl wr.heap.size wr).alloc (Nat.le_refl _) (.cells #[.int .u8 (t.1.toNat : Int), .int .i64 (t.2.1 : Int), .int .i64 (t.2.2 : Int)] 52)).trans (hb4.mono (by simp)); obtain ⟨W5, hW5⟩ : ∃ W5, w4.alloc (.cells #[.int .i64 (n1 : Int), .int .i64 (b1 : Int), .int .u32 (x1 : Int), .int .i64 (n2 : Int), .int .i64 (b2 : Int), .int .u32 (x2 : Int), .bool true] 61) = W5 := ⟨_, rfl⟩; have hb6 : Below wr.heap.size wr W5 := (by rw [← hW5]; exact hb5.alloc hb5.size _); have hx5 : W5.heap[w4.heap.size]? = some (.cells #[.int .i64 (n1 : Int), .int .i64 (b1 : Int), .int .u32 (x1 : Int), .int .i64 (n2 : Int), .int .i64 (b2 : Int), .int .u32 (x2 : Int), .bool true] 61 (0, 0)) := (by rw [← hW5]; exact heap_alloc_new w4 _); have hs4 : wr.heap.size ≤ w4.heap.size := hb5.size; have HW5 := Lib.hid hW5; clear hW5 hb4 hb5)
          rw [HW5.out]
          have HB5 := Lib.hid hb6
          have HN5 := Lib.hid (HNB1.out.below hb6 HNB1.out.lt)
          have HM5 := Lib.hid (HNB2.out.below hb6 HNB2.out.lt)
          have r0 : W5.cell? ⟨w4.heap.size, 0, none⟩ = some (.int .i64 (n1 : Int)) := cell_of_row _ _ 0 _ _ _ hx5
          have q1 : W5.cell? ⟨w.heap.size, n1, none⟩ = some (.int .i64 (a1 : Int)) := HN5.out.cell HA1.out
          have f1 : W5.frozen? ⟨w.heap.size, n1, none⟩ = false := HN5.out.free
          obtain ⟨W6, hW6⟩ : ∃ W6, W5.setCell ⟨w.heap.size, n1, none⟩ (.int .i64 ((a1 : Int) + 1)) = W6 := ⟨_, rfl⟩
          have hl1 : w.heap.size < wr.heap.size := HNB1.out.lt
          have hl2 : (w.heap.size + 1) < wr.heap.size := HNB2.out.lt
          have hx6 : W6.heap[w4.heap.size]? = some (.cells #[.int .i64 (n1 : Int), .int .i64 (b1 : Int), .int .u32 (x1 : Int), .int .i64 (n2 : Int), .int .i64 (b2 : Int), .int .u32 (x2 : Int), .bool true] 61 (0, 0)) := (by rw [← hW6]; exact (Below.heap_setCell _ _ _ _ (by show w4.heap.size ≠ w.heap.size; omega)).trans hx5)
          have r3 : W6.cell? ⟨w4.heap.size, 3, none⟩ = some (.int .i64 (n2 : Int)) := cell_of_row _ _ 3 _ _ _ hx6
          have r6 : W6.cell? ⟨w4.heap.size, 6, none⟩ = some (.bool true) := cell_of_row _ _ 6 _ _ _ hx6
          have HN6 : Hid (NB W6 w.heap.size (l1.set n1 (a1 + 1))) := (by show NB _ _ _; rw [← hW6]; have h := HN5.out.set n1 (a1 + 1); push_cast at h; exact h)
          have HM6 : Hid (NB W6 (w.heap.size + 1) l2) := (by show NB _ _ _; rw [← hW6]; exact (Below.heap_setCell _ _ _ _ (by show (w.heap.size + 1) ≠ w.heap.size; omega)).trans HM5.out)
          have q2 : W6.cell? ⟨(w.heap.size + 1), n2, none⟩ = some (.int .i64 (a2 : Int)) := HM6.out.cell HA2.out
          have f2 : W6.frozen? ⟨(w.heap.size + 1), n2, none⟩ = false := HM6.out.free
          have HB6 : Hid (Below w.heap.size w W6) := (by show Below _ _ _; rw [← hW6]; exact (HBEL.out.trans (HB5.out.mono HBEL.out.size)).setCell (by show w.heap.size ≤ w.heap.size; omega) _)
          clear hb6 hx5 hx6
          go_wp2
          go_roundg (gk - 1)
          case measure => omega
          case rel =>
            refine ⟨rfl, rfl, k + 1, by omega, by go_num, by omega, ?_, ?_, ?_, HB6.out.setCell (by show w.heap.size ≤ (w.heap.size + 1); omega) _⟩
            · rw [HMT.out, if_pos trivial, List.length_append, HMC.out, List.length_singleton]
              go_num
            · rw [HU1.out]
              exact (Below.heap_setCell _ _ _ _ (by show w.heap.size ≠ (w.heap.size + 1); omega)).trans HN6.out
            · rw [HMT.out, if_pos trivial, HU2.out]
              have h := HM6.out.set n2 (a2 + 1)
              push_cast at h
              exact h
        | false =>
          go_upto_region 9 with (go_at_call 24; refine (HSP.out _).mono ?_; rintro e w4 ⟨rfl, hb4⟩; unfold agR; have hb5 := ((Below.refl wr.heap.size wr).alloc (Nat.le_refl _) (.cells #[.int .u8 (t.1.toNat : Int), .int .i64 (t.2.1 : Int), .int .i64 (t.2.2 : Int)] 52)).trans (hb4.mono (by simp)); obtain ⟨W5, hW5⟩ : ∃ W5, w4.alloc (.cells #[.int .i64 (n1 : Int), .int .i64 (b1 : Int), .int .u32 (x1 : Int), .int .i64 (n2 : Int), .int .i64 (b2 : Int), .int .u32 (x2 : Int), .bool false] 61) = W5 := ⟨_, rfl⟩; have hb6 : Below wr.heap.size wr W5 := (by rw [← hW5]; exact hb5.alloc hb5.size _); have hx5 : W5.heap[w4.heap.size]? = some (.cells #[.int .i64 (n1 : Int), .int .i64 (b1 : Int), .int .u32 (x1 : Int), .int .i64 (n2 : Int), .int .i64 (b2 : Int), .int .u32 (x2 : Int), .bool false] 61 (0, 0)) := (by rw [← hW5]; exact heap_alloc_new w4 _); have hs4 : wr.heap.size ≤ w4.heap.size := hb5.size; have HW5 := Lib.hid hW5; clear hW5 hb4 hb5)
          rw [HW5.out]
          have HB5 := Lib.hid hb6
          have HN5 := Lib.hid (HNB1.out.below hb6 HNB1.out.lt)
          have HM5 := Lib.hid (HNB2.out.below hb6 HNB2.out.lt)
          have r0 : W5.cell? ⟨w4.heap.size, 0, none⟩ = some (.int .i64 (n1 : Int)) := cell_of_row _ _ 0 _ _ _ hx5
          have q1 : W5.cell? ⟨w.heap.size, n1, none⟩ = some (.int .i64 (a1 : Int)) := HN5.out.cell HA1.out
          have f1 : W5.frozen? ⟨w.heap.size, n1, none⟩ = false := HN5.out.free
          obtain ⟨W6, hW6⟩ : ∃ W6, W5.setCell ⟨w.heap.size, n1, none⟩ (.int .i64 ((a1 : Int) + 1)) = W6 := ⟨_, rfl⟩
          have hl1 : w.heap.size < wr.heap.size := HNB1.out.lt
          have hl2 : (w.heap.size + 1) < wr.heap.size := HNB2.out.lt
          have hx6 : W6.heap[w4.heap.size]? = some (.cells #[.int .i64 (n1 : Int), .int .i64 (b1 : Int), .int .u32 (x1 : Int), .int .i64 (n2 : Int), .int .i64 (b2 : Int), .int .u32 (x2 : Int), .bool false] 61 (0, 0)) := (by rw [← hW6]; exact (Below.heap_setCell _ _ _ _ (by show w4.heap.size ≠ w.heap.size; omega)).trans hx5)
          have r3 : W6.cell? ⟨w4.heap.size, 3, none⟩ = some (.int .i64 (n2 : Int)) := cell_of_row _ _ 3 _ _ _ hx6
          have r6 : W6.cell? ⟨w4.heap.size, 6, none⟩ = some (.bool false) := cell_of_row _ _ 6 _ _ _ hx6
          have HN6 : Hid (NB W6 w.heap.size (l1.set n1 (a1 + 1))) := (by show NB _ _ _; rw [← hW6]; have h := HN5.out.set n1 (a1 + 1); push_cast at h; exact h)
          have HM6 : Hid (NB W6 (w.heap.size + 1) l2) := (by show NB _ _ _; rw [← hW6]; exact (Below.heap_setCell _ _ _ _ (by show (w.heap.size + 1) ≠ w.heap.size; omega)).trans HM5.out)
          have q2 : W6.cell? ⟨(w.heap.size + 1), n2, none⟩ = some (.int .i64 (a2 : Int)) := HM6.out.cell HA2.out
          have f2 : W6.frozen? ⟨(w.heap.size + 1), n2, none⟩ = false := HM6.out.free
          have HB6 : Hid (Below w.heap.size w W6) := (by show Below _ _ _; rw [← hW6]; exact (HBEL.out.trans (HB5.out.mono HBEL.out.size)).setCell (by show w.heap.size ≤ w.heap.size; omega) _)
          clear hb6 hx5 hx6
          go_wp2
          go_roundg (gk - 1)
          case measure => omega
          case rel =>
            refine ⟨rfl, rfl, k + 1, by omega, by go_num, by omega, ?_, ?_, ?_, HB6.out⟩
            · rw [HMT.out, if_neg (by simp), HMC.out]
            · rw [HU1.out]
              exact HN6.out
            · rw [HMT.out, if_neg (by simp), HL2.out]
              exact HM6.out
      · obtain rfl : k = n := by omega
        rw [show ts.take k = ts from List.take_of_length_le (by rw [HN.out]; exact Nat.le_refl _)] at HNB1 HNB2 HMC
        by_cases hlast : k < l
        · obtain ⟨y, ln, d, hta, hrt⟩ : ∃ y ln d, TkAt w A k y ln d ∧ rightT y ln d = false := by
            rcases HEND.out with h | ⟨_, h⟩
            · omega
            · exact h
          obtain ⟨b, o, rfl, hbB, v0, v1, v2⟩ := hta.below HBEL.out
          have HSP := Lib.hid (fun W => split_no y ln d W hrt)
          clear hta hrt
          go_wp2_with (go_at_call 24; refine (HSP.out _).mono ?_; rintro e w4 ⟨rfl, hb4⟩; unfold agR; have hb5 := ((Below.refl wr.heap.size wr).alloc (Nat.le_refl _) (.cells #[.int .u8 y, .int .i64 ln, .int .i64 d] 52)).trans (hb4.mono (by simp)); have HB5 := Lib.hid (HBEL.out.trans (hb5.mono HBEL.out.size)); clear hb4 hb5)
          refine bodyPost_ret (results_tmp3 rfl _ _ _) rfl ⟨HB5.out.alloc HB5.out.size _, .inl ⟨hlast, rfl⟩⟩
        · obtain rfl : k = l := by omega
          have hq256 : (incW (List.replicate 273 0) (fsts ts))[256]? = some ((fsts ts).count 256) := incW_at 273 _ (by decide)
          have HW1 : Hid (wt1 ts = (incW (List.replicate 273 0) (fsts ts)).set 256 ((fsts ts).count 256 + 1)) := by
            show _ = _
            rw [wt1, incW_append, incW_cons, List.getD, hq256]
            rfl
          have hcn1 : (fsts ts).count 256 ≤ 65536 := by
            have h := List.count_le_length (a := 256) (l := fsts ts)
            rw [fsts_len, HN.out] at h
            omega
          obtain ⟨l1, hl1⟩ : ∃ l1, incW (List.replicate 273 0) (fsts ts) = l1 := ⟨_, rfl⟩
          obtain ⟨a1, ha1⟩ : ∃ a1, (fsts ts).count 256 = a1 := ⟨_, rfl⟩
          rw [hl1] at HNB1 hq256 HW1
          rw [ha1] at hq256 HW1 hcn1
          have q1 : wr.cell? ⟨w.heap.size, 256, none⟩ = some (.int .i64 (a1 : Int)) := HNB1.out.cell hq256
          have f1 : wr.frozen? ⟨w.heap.size, 256, none⟩ = false := HNB1.out.free
          obtain ⟨W6, hW6⟩ : ∃ W6, wr.setCell ⟨w.heap.size, 256, none⟩ (.int .i64 ((a1 : Int) + 1)) = W6 := ⟨_, rfl⟩
          have HN6 : Hid (NB W6 w.heap.size (wt1 ts)) := by
            show NB _ _ _
            rw [← hW6, HW1.out]
            have h := HNB1.out.set 256 (a1 + 1)
            push_cast at h
            exact h
          have HM6 : Hid (NB W6 (w.heap.size + 1) (incW (List.replicate 30 0) (mts ts))) := by
            show NB _ _ _
            rw [← hW6]
            exact (Below.heap_setCell _ _ _ _ (by show (w.heap.size + 1) ≠ w.heap.size; omega)).trans HNB2.out
          have HB6 : Hid (Below w.heap.size w W6) := by
            show Below _ _ _
            rw [← hW6]
            exact HBEL.out.setCell (by show w.heap.size ≤ w.heap.size; omega) _
          clear hl1 ha1 hq256
          by_cases hm0 : mc = 0
          · subst hm0
            have hnil : mts ts = [] := List.eq_nil_of_length_eq_zero HMC.out
            have hq0 : (incW (List.replicate 30 0) (mts ts))[0]? = some 0 := by rw [incW_at 30 _ (by decide), hnil]; rfl
            have q2 : W6.cell? ⟨(w.heap.size + 1), 0, none⟩ = some (.int .i64 ((0 : Nat) : Int)) := HM6.out.cell hq0
            have f2 : W6.frozen? ⟨(w.heap.size + 1), 0, none⟩ = false := HM6.out.free
            have HW2 : Hid (wt2 ts = (incW (List.replicate 30 0) (mts ts)).set 0 1) := by
              show _ = _
              rw [wt2, if_pos hnil, hnil]
              rfl
            clear hq0 hnil
            go_wp2
            refine bodyPost_ret (results_tmp3 rfl _ _ _) rfl ⟨HB6.out.setCell (by show w.heap.size ≤ (w.heap.size + 1); omega) _, w.heap.size, (w.heap.size + 1), rfl, (Below.heap_setCell _ _ _ _ (by show w.heap.size ≠ (w.heap.size + 1); omega)).trans HN6.out, by rw [HW2.out]; exact HM6.out.set 0 1, by omega, by omega⟩
          · have t0 : ((mc : Int) == 0) = false := by simp; omega
            have HW2 : Hid (wt2 ts = incW (List.replicate 30 0) (mts ts)) := by
              show _ = _
              rw [wt2, if_neg (fun e => hm0 (by rw [← HMC.out, e]; rfl))]
            clear hm0
            go_wp2
            refine bodyPost_ret (results_tmp3 rfl _ _ _) rfl ⟨HB6.out, w.heap.size, (w.heap.size + 1), rfl, HN6.out, by rw [HW2.out]; exact HM6.out, by omega, by omega⟩
  · have HZ1 : Hid (NB (((w.alloc (.cells (madeCells #[.int .i64 0] 30) 3)).alloc (.cells (madeCells #[.int .i64 0] 273) 3)).drew) (w.heap.size + 1) (incW (List.replicate 273 0) (fsts (ts.take 0)))) := (by have h := wei_made (w.alloc (.cells (madeCells #[.int .i64 0] 30) 3)) 273; rw [World.size_alloc] at h; exact h)
    have HZ2 : Hid (NB (((w.alloc (.cells (madeCells #[.int .i64 0] 30) 3)).alloc (.cells (madeCells #[.int .i64 0] 273) 3)).drew) w.heap.size (incW (List.replicate 30 0) (mts (ts.take 0)))) := ((wei_made w 30).below (B := (w.alloc (.cells (madeCells #[.int .i64 0] 30) 3)).heap.size) (((Below.refl _ _).alloc (Nat.le_refl _) _).drew) (by simp))
    have HB0 : Hid (Below w.heap.size w (((w.alloc (.cells (madeCells #[.int .i64 0] 30) 3)).alloc (.cells (madeCells #[.int .i64 0] 273) 3)).drew)) := (((Below.refl w.heap.size w).alloc (Nat.le_refl _) _).alloc (by simp) _).drew
    obtain ⟨W0, hW0⟩ : ∃ W0, ((w.alloc (.cells (madeCells #[.int .i64 0] 30) 3)).alloc (.cells (madeCells #[.int .i64 0] 273) 3)).drew = W0 := ⟨_, rfl⟩
    rw [hW0] at HZ1 HZ2 HB0 ⊢
    clear hW0 mk1 mk2
    go_wp2
    go_loopg [2, 3, 5, 17] l (fun gk s2 s3 m5 i wr => s2 = .slice (some ⟨(w.heap.size + 1), 0, none⟩) 273 273 ∧ s3 = .slice (some ⟨w.heap.size, 0, none⟩) 30 30 ∧ ∃ k : Nat, k + gk = l ∧ i = .int .i64 (k : Int) ∧ k ≤ n ∧ m5 = .int .i64 ((mts (ts.take k)).length : Nat) ∧ NB wr (w.heap.size + 1) (incW (List.replicate 273 0) (fsts (ts.take k))) ∧ NB wr w.heap.size (incW (List.replicate 30 0) (mts (ts.take k))) ∧ Below w.heap.size w wr)
    case atStart => exact ⟨rfl, rfl, 0, by omega, rfl, Nat.zero_le _, rfl, HZ1.out, HZ2.out, HB0.out⟩
    case round =>
      obtain ⟨rfl, rfl, k, hkg, rfl, hkn, rfl, hn1, hn2, hbel⟩ := hrel
      have HNB1 := Lib.hid hn1
      have HNB2 := Lib.hid hn2
      have HBEL := Lib.hid hbel
      clear hn1 hn2 hbel HZ1 HZ2 HB0
      have hml := mts_len (ts.take k)
      rw [List.length_take] at hml
      obtain ⟨mc, hmc⟩ : ∃ mc, (mts (ts.take k)).length = mc := ⟨_, rfl⟩
      have HMC := Lib.hid hmc
      rw [hmc] at hml ⊢
      clear hmc
      by_cases hkl : k < n
      · obtain ⟨t, ht⟩ : ∃ t, ts[k]? = some t := ⟨_, List.getElem?_eq_getElem (by rw [HN.out]; exact hkl)⟩
        have hok := HK.out t (List.mem_of_getElem? ht)
        have HSP := Lib.hid (fun W => splitT_any t W hok)
        have hc1 := cls1_lt hok
        have hc2 := cls2_lt hok
        have HTK : Hid (ts.take (k + 1) = ts.take k ++ [t]) := by show _ = _; rw [List.take_add_one, ht]; rfl
        have HF : Hid (fsts (ts.take (k + 1)) = fsts (ts.take k) ++ [(cls1 t).1]) := by show _ = _; rw [HTK.out, fsts_snoc]
        have HMT : Hid (mts (ts.take (k + 1)) = if isM t then mts (ts.take k) ++ [(cls2 t).1] else mts (ts.take k)) := by show _ = _; rw [HTK.out, mts_snoc]
        obtain ⟨b, o, rfl, hbB, v0, v1, v2⟩ := (HC.out k t ht).below HBEL.out
        have k1 : l ≤ 65536 := hm
        have HA1 : Hid ((incW (List.replicate 273 0) (fsts (ts.take k)))[(cls1 t).1]? = some ((fsts (ts.take k)).count (cls1 t).1)) := incW_at 273 _ hc1.1
        have HA2 : Hid ((incW (List.replicate 30 0) (mts (ts.take k)))[(cls2 t).1]? = some ((mts (ts.take k)).count (cls2 t).1)) := incW_at 30 _ hc2.1
        have HU1 : Hid (incW (List.replicate 273 0) (fsts (ts.take (k + 1))) = (incW (List.replicate 273 0) (fsts (ts.take k))).set (cls1 t).1 ((fsts (ts.take k)).count (cls1 t).1 + 1)) := by
          show _ = _
          rw [HF.out, incW_append, incW_cons, List.getD, HA1.out]
          rfl
        have HU2 : Hid (incW (List.replicate 30 0) (mts (ts.take k) ++ [(cls2 t).1]) = (incW (List.replicate 30 0) (mts (ts.take k))).set (cls2 t).1 ((mts (ts.take k)).count (cls2 t).1 + 1)) := by
          show _ = _
          rw [incW_append, incW_cons, List.getD, HA2.out]
          rfl
        have hcn1 : (fsts (ts.take k)).count (cls1 t).1 ≤ 65536 := by
          have h := List.count_le_length (a := (cls1 t).1) (l := fsts (ts.take k))
          rw [fsts_len, List.length_take] at h
          omega
        have hcn2 : (mts (ts.take k)).count (cls2 t).1 ≤ 65536 := by
          have h := List.count_le_length (a := (cls2 t).1) (l := mts (ts.take k))
          rw [HMC.out] at h
          omega
        obtain ⟨l1, hl1⟩ : ∃ l1, incW (List.replicate 273 0) (fsts (ts.take k)) = l1 := ⟨_, rfl⟩
        obtain ⟨l2, hl2⟩ : ∃ l2, incW (List.replicate 30 0) (mts (ts.take k)) = l2 := ⟨_, rfl⟩
        have HL2 := Lib.hid hl2
        rw [hl1] at HNB1 HA1 HU1
        rw [hl2] at HNB2 HA2 HU2
        obtain ⟨a1, ha1⟩ : ∃ a1, (fsts (ts.take k)).count (cls1 t).1 = a1 := ⟨_, rfl⟩
        obtain ⟨a2, ha2⟩ : ∃ a2, (mts (ts.take k)).count (cls2 t).1 = a2 := ⟨_, rfl⟩
        rw [ha1] at HA1 HU1 hcn1
        rw [ha2] at HA2 HU2 hcn2
        obtain ⟨⟨n1, b1, x1⟩, hq1⟩ : ∃ q, cls1 t = q := ⟨_, rfl⟩
        obtain ⟨⟨n2, b2, x2⟩, hq2⟩ : ∃ q, cls2 t = q := ⟨_, rfl⟩
        rw [hq1] at HSP HA1 HU1 hc1
        rw [hq2] at HSP HA2 HU2 hc2 HMT
        obtain ⟨m, hmm⟩ : ∃ m, isM t = m := ⟨_, rfl⟩
        rw [hmm] at HSP HMT
        dsimp only at HSP HA1 HU1 HA2 HU2 HMT hc1 hc2
        have hn273 := hc1.1
        have hn30 := hc2.1
        clear ht hok hl1 hl2 ha1 ha2 hq1 hq2 hmm hc1 hc2
        cases m with
        | true =>
          go_upto_region 9 with (go_at_call 24; refine (HSP.out _).mono ?_; rintro e w4 ⟨rfl, hb4⟩; unfold agR; have hb5 := ((Below.refl wr.heap.size wr).alloc (Nat.le_refl _) (.cells #[.int .u8 (t.1.toNat : Int), .int .i64 (t.2.1 : Int), .int .i64 (t.2.2 : Int)] 52)).trans (hb4.mono (by simp)); obtain ⟨W5, hW5⟩ : ∃ W5, w4.alloc (.cells #[.int .i64 (n1 : Int), .int .i64 (b1 : Int), .int .u32 (x1 : Int), .int .i64 (n2 : Int), .int .i64 (b2 : Int), .int .u32 (x2 : Int), .bool true] 61) = W5 := ⟨_, rfl⟩; have hb6 : Below wr.heap.size wr W5 := (by rw [← hW5]; exact hb5.alloc hb5.size _); have hx5 : W5.heap[w4.heap.size]? = some (.cells #[.int .i64 (n1 : Int), .int .i64 (b1 : Int), .int .u32 (x1 : Int), .int .i64 (n2 : Int), .int .i64 (b2 : Int), .int .u32 (x2 : Int), .bool true] 61 (0, 0)) := (by rw [← hW5]; exact heap_alloc_new w4 _); have hs4 : wr.heap.size ≤ w4.heap.size := hb5.size; have HW5 := Lib.hid hW5; clear hW5 hb4 hb5)
          rw [HW5.out]
          have HB5 := Lib.hid hb6
          have HN5 := Lib.hid (HNB1.out.below hb6 HNB1.out.lt)
          have HM5 := Lib.hid (HNB2.out.below hb6 HNB2.out.lt)
          have r0 : W5.cell? ⟨w4.heap.size, 0, none⟩ = some (.int .i64 (n1 : Int)) := cell_of_row _ _ 0 _ _ _ hx5
          have q1 : W5.cell? ⟨(w.heap.size + 1), n1, none⟩ = some (.int .i64 (a1 : Int)) := HN5.out.cell HA1.out
          have f1 : W5.frozen? ⟨(w.heap.size + 1), n1, none⟩ = false := HN5.out.free
          obtain ⟨W6, hW6⟩ : ∃ W6, W5.setCell ⟨(w.heap.size + 1), n1, none⟩ (.int .i64 ((a1 : Int) + 1)) = W6 := ⟨_, rfl⟩
          have hl1 : (w.heap.size + 1) < wr.heap.size := HNB1.out.lt
          have hl2 : w.heap.size < wr.heap.size := HNB2.out.lt
          have hx6 : W6.heap[w4.heap.size]? = some (.cells #[.int .i64 (n1 : Int), .int .i64 (b1 : Int), .int .u32 (x1 : Int), .int .i64 (n2 : Int), .int .i64 (b2 : Int), .int .u32 (x2 : Int), .bool true] 61 (0, 0)) := (by rw [← hW6]; exact (Below.heap_setCell _ _ _ _ (by show w4.heap.size ≠ (w.heap.size + 1); omega)).trans hx5)
          have r3 : W6.cell? ⟨w4.heap.size, 3, none⟩ = some (.int .i64 (n2 : Int)) := cell_of_row _ _ 3 _ _ _ hx6
          have r6 : W6.cell? ⟨w4.heap.size, 6, none⟩ = some (.bool true) := cell_of_row _ _ 6 _ _ _ hx6
          have HN6 : Hid (NB W6 (w.heap.size + 1) (l1.set n1 (a1 + 1))) := (by show NB _ _ _; rw [← hW6]; have h := HN5.out.set n1 (a1 + 1); push_cast at h; exact h)
          have HM6 : Hid (NB W6 w.heap.size l2) := (by show NB _ _ _; rw [← hW6]; exact (Below.heap_setCell _ _ _ _ (by show w.heap.size ≠ (w.heap.size + 1); omega)).trans HM5.out)
          have q2 : W6.cell? ⟨w.heap.size, n2, none⟩ = some (.int .i64 (a2 : Int)) := HM6.out.cell HA2.out
          have f2 : W6.frozen? ⟨w.heap.size, n2, none⟩ = false := HM6.out.free
          have HB6 : Hid (Below w.heap.size w W6) := (by show Below _ _ _; rw [← hW6]; exact (HBEL.out.trans (HB5.out.mono HBEL.out.size)).setCell (by show w.heap.size ≤ (w.heap.size + 1); omega) _)
          clear hb6 hx5 hx6
          go_wp2
          go_roundg (gk - 1)
          case measure => omega
          case rel =>
            refine ⟨rfl, rfl, k + 1, by omega, by go_num, by omega, ?_, ?_, ?_, HB6.out.setCell (by show w.heap.size ≤ w.heap.size; omega) _⟩
            · rw [HMT.out, if_pos trivial, List.length_append, HMC.out, List.length_singleton]
              go_num
            · rw [HU1.out]
              exact (Below.heap_setCell _ _ _ _ (by show (w.heap.size + 1) ≠ w.heap.size; omega)).trans HN6.out
            · rw [HMT.out, if_pos trivial, HU2.out]
              have h := HM6.out.set n2 (a2 + 1)
              push_cast at h
              exact h
        | false =>
          go_upto_region 9 with (go_at_call 24; refine (HSP.out _).mono ?_; rintro e w4 ⟨rfl, hb4⟩; unfold agR; have hb5 := ((Below.refl wr.heap.size wr).alloc (Nat.le_refl _) (.cells #[.int .u8 (t.1.toNat : Int), .int .i64 (t.2.1 : Int), .int .i64 (t.2.2 : Int)] 52)).trans (hb4.mono (by simp)); obtain ⟨W5, hW5⟩ : ∃ W5, w4.alloc (.cells #[.int .i64 (n1 : Int), .int .i64 (b1 : Int), .int .u32 (x1 : Int), .int .i64 (n2 : Int), .int .i64 (b2 : Int), .int .u32 (x2 : Int), .bool false] 61) = W5 := ⟨_, rfl⟩; have hb6 : Below wr.heap.size wr W5 := (by rw [← hW5]; exact hb5.alloc hb5.size _); have hx5 : W5.heap[w4.heap.size]? = some (.cells #[.int .i64 (n1 : Int), .int .i64 (b1 : Int), .int .u32 (x1 : Int), .int .i64 (n2 : Int), .int .i64 (b2 : Int), .int .u32 (x2 : Int), .bool false] 61 (0, 0)) := (by rw [← hW5]; exact heap_alloc_new w4 _); have hs4 : wr.heap.size ≤ w4.heap.size := hb5.size; have HW5 := Lib.hid hW5; clear hW5 hb4 hb5)
          rw [HW5.out]
          have HB5 := Lib.hid hb6
          have HN5 := Lib.hid (HNB1.out.below hb6 HNB1.out.lt)
          have HM5 := Lib.hid (HNB2.out.below hb6 HNB2.out.lt)
          have r0 : W5.cell? ⟨w4.heap.size, 0, none⟩ = some (.int .i64 (n1 : Int)) := cell_of_row _ _ 0 _ _ _ hx5
          have q1 : W5.cell? ⟨(w.heap.size + 1), n1, none⟩ = some (.int .i64 (a1 : Int)) := HN5.out.cell HA1.out
          have f1 : W5.frozen? ⟨(w.heap.size + 1), n1, none⟩ = false := HN5.out.free
          obtain ⟨W6, hW6⟩ : ∃ W6, W5.setCell ⟨(w.heap.size + 1), n1, none⟩ (.int .i64 ((a1 : Int) + 1)) = W6 := ⟨_, rfl⟩
          have hl1 : (w.heap.size + 1) < wr.heap.size := HNB1.out.lt
          have hl2 : w.heap.size < wr.heap.size := HNB2.out.lt
          have hx6 : W6.heap[w4.heap.size]? = some (.cells #[.int .i64 (n1 : Int), .int .i64 (b1 : Int), .int .u32 (x1 : Int), .int .i64 (n2 : Int), .int .i64 (b2 : Int), .int .u32 (x2 : Int), .bool false] 61 (0, 0)) := (by rw [← hW6]; exact (Below.heap_setCell _ _ _ _ (by show w4.heap.size ≠ (w.heap.size + 1); omega)).trans hx5)
          have r3 : W6.cell? ⟨w4.heap.size, 3, none⟩ = some (.int .i64 (n2 : Int)) := cell_of_row _ _ 3 _ _ _ hx6
          have r6 : W6.cell? ⟨w4.heap.size, 6, none⟩ = some (.bool false) := cell_of_row _ _ 6 _ _ _ hx6
          have HN6 : Hid (NB W6 (w.heap.size + 1) (l1.set n1 (a1 + 1))) := (by show NB _ _ _; rw [← hW6]; have h := HN5.out.set n1 (a1 + 1); push_cast at h; exact h)
          have HM6 : Hid (NB W6 w.heap.size l2) := (by show NB _ _ _; rw [← hW6]; exact (Below.heap_setCell _ _ _ _ (by show w.heap.size ≠ (w.heap.size + 1); omega)).trans HM5.out)
          have q2 : W6.cell? ⟨w.heap.size, n2, none⟩ = some (.int .i64 (a2 : Int)) := HM6.out.cell HA2.out
          have f2 : W6.frozen? ⟨w.heap.size, n2, none⟩ = false := HM6.out.free
          have HB6 : Hid (Below w.heap.size w W6) := (by show Below _ _ _; rw [← hW6]; exact (HBEL.out.trans (HB5.out.mono HBEL.out.size)).setCell (by show w.heap.size ≤ (w.heap.size + 1); omega) _)
          clear hb6 hx5 hx6
          go_wp2
          go_roundg (gk - 1)
          case measure => omega
          case rel =>
            refine ⟨rfl, rfl, k + 1, by omega, by go_num, by omega, ?_, ?_, ?_, HB6.out⟩
            · rw [HMT.out, if_neg (by simp), HMC.out]
            · rw [HU1.out]
              exact HN6.out
            · rw [HMT.out, if_neg (by simp), HL2.out]
              exact HM6.out
      · obtain rfl : k = n := by omega
        rw [show ts.take k = ts from List.take_of_length_le (by rw [HN.out]; exact Nat.le_refl _)] at HNB1 HNB2 HMC
        by_cases hlast : k < l
        · obtain ⟨y, ln, d, hta, hrt⟩ : ∃ y ln d, TkAt w A k y ln d ∧ rightT y ln d = false := by
            rcases HEND.out with h | ⟨_, h⟩
            · omega
            · exact h
          obtain ⟨b, o, rfl, hbB, v0, v1, v2⟩ := hta.below HBEL.out
          have HSP := Lib.hid (fun W => split_no y ln d W hrt)
          clear hta hrt
          go_wp2_with (go_at_call 24; refine (HSP.out _).mono ?_; rintro e w4 ⟨rfl, hb4⟩; unfold agR; have hb5 := ((Below.refl wr.heap.size wr).alloc (Nat.le_refl _) (.cells #[.int .u8 y, .int .i64 ln, .int .i64 d] 52)).trans (hb4.mono (by simp)); have HB5 := Lib.hid (HBEL.out.trans (hb5.mono HBEL.out.size)); clear hb4 hb5)
          refine bodyPost_ret (results_tmp3 rfl _ _ _) rfl ⟨HB5.out.alloc HB5.out.size _, .inl ⟨hlast, rfl⟩⟩
        · obtain rfl : k = l := by omega
          have hq256 : (incW (List.replicate 273 0) (fsts ts))[256]? = some ((fsts ts).count 256) := incW_at 273 _ (by decide)
          have HW1 : Hid (wt1 ts = (incW (List.replicate 273 0) (fsts ts)).set 256 ((fsts ts).count 256 + 1)) := by
            show _ = _
            rw [wt1, incW_append, incW_cons, List.getD, hq256]
            rfl
          have hcn1 : (fsts ts).count 256 ≤ 65536 := by
            have h := List.count_le_length (a := 256) (l := fsts ts)
            rw [fsts_len, HN.out] at h
            omega
          obtain ⟨l1, hl1⟩ : ∃ l1, incW (List.replicate 273 0) (fsts ts) = l1 := ⟨_, rfl⟩
          obtain ⟨a1, ha1⟩ : ∃ a1, (fsts ts).count 256 = a1 := ⟨_, rfl⟩
          rw [hl1] at HNB1 hq256 HW1
          rw [ha1] at hq256 HW1 hcn1
          have q1 : wr.cell? ⟨(w.heap.size + 1), 256, none⟩ = some (.int .i64 (a1 : Int)) := HNB1.out.cell hq256
          have f1 : wr.frozen? ⟨(w.heap.size + 1), 256, none⟩ = false := HNB1.out.free
          obtain ⟨W6, hW6⟩ : ∃ W6, wr.setCell ⟨(w.heap.size + 1), 256, none⟩ (.int .i64 ((a1 : Int) + 1)) = W6 := ⟨_, rfl⟩
          have HN6 : Hid (NB W6 (w.heap.size + 1) (wt1 ts)) := by
            show NB _ _ _
            rw [← hW6, HW1.out]
            have h := HNB1.out.set 256 (a1 + 1)
            push_cast at h
            exact h
          have HM6 : Hid (NB W6 w.heap.size (incW (List.replicate 30 0) (mts ts))) := by
            show NB _ _ _
            rw [← hW6]
            exact (Below.heap_setCell _ _ _ _ (by show w.heap.size ≠ (w.heap.size + 1); omega)).trans HNB2.out
          have HB6 : Hid (Below w.heap.size w W6) := by
            show Below _ _ _
            rw [← hW6]
            exact HBEL.out.setCell (by show w.heap.size ≤ (w.heap.size + 1); omega) _
          clear hl1 ha1 hq256
          by_cases hm0 : mc = 0
          · subst hm0
            have hnil : mts ts = [] := List.eq_nil_of_length_eq_zero HMC.out
            have hq0 : (incW (List.replicate 30 0) (mts ts))[0]? = some 0 := by rw [incW_at 30 _ (by decide), hnil]; rfl
            have q2 : W6.cell? ⟨w.heap.size, 0, none⟩ = some (.int .i64 ((0 : Nat) : Int)) := HM6.out.cell hq0
            have f2 : W6.frozen? ⟨w.heap.size, 0, none⟩ = false := HM6.out.free
            have HW2 : Hid (wt2 ts = (incW (List.replicate 30 0) (mts ts)).set 0 1) := by
              show _ = _
              rw [wt2, if_pos hnil, hnil]
              rfl
            clear hq0 hnil
            go_wp2
            refine bodyPost_ret (results_tmp3 rfl _ _ _) rfl ⟨HB6.out.setCell (by show w.heap.size ≤ w.heap.size; omega) _, (w.heap.size + 1), w.heap.size, rfl, (Below.heap_setCell _ _ _ _ (by show (w.heap.size + 1) ≠ w.heap.size; omega)).trans HN6.out, by rw [HW2.out]; exact HM6.out.set 0 1, by omega, by omega⟩
          · have t0 : ((mc : Int) == 0) = false := by simp; omega
            have HW2 : Hid (wt2 ts = incW (List.replicate 30 0) (mts ts)) := by
              show _ = _
              rw [wt2, if_neg (fun e => hm0 (by rw [← HMC.out, e]; rfl))]
            clear hm0
            go_wp2
            refine bodyPost_ret (results_tmp3 rfl _ _ _) rfl ⟨HB6.out, (w.heap.size + 1), w.heap.size, rfl, HN6.out, by rw [HW2.out]; exact HM6.out, by omega, by omega⟩
end Go.Proofs.YtgbbdgoleiolhaaGreat
/- Layer 13: a block is put. -/
namespace Go.Proofs.YtgbbdgoleiolhaaGreat
open Go.RowKit BitsP SymP

theorem blkput_nil (v : Value) (w : World) : Calls Tryz.prog 7 #[.pointer none, v] w fun e w' => e = .returned (.int .i64 1) ∧ w = w' := by
  go_enter Tryz.func7, Tryz.ntmps7
  go_wp2
  go_ret
  exact ⟨rfl, rfl⟩
/-- What Weights refuses, Put does. -/
theorem blkput_no (A : Option Addr) (l c q : Nat) (w : World) (h : Calls Tryz.prog 22 #[.slice A l c] w fun e w' => e = .returned (.tuple #[.slice none 0 0, .slice none 0 0, .bool false]) ∧ Below w.heap.size w w') :
    Calls Tryz.prog 7 #[.pointer (some ⟨q, 0, none⟩), .slice A l c] w fun e w' => e = .returned (.int .i64 3) ∧ Below w.heap.size w w' := by
  have HW := Lib.hid h
  clear h
  go_enter Tryz.func7, Tryz.ntmps7
  go_wp2_with (go_at_call 22; refine HW.out.mono ?_; rintro e w2 ⟨rfl, hb2⟩; have HB2 := Lib.hid hb2; clear hb2)
  go_ret
  exact ⟨rfl, HB2.out⟩
/-- What the loop keeps: the writer. -/
structure BkI (w4 W : World) (q base : Nat) (S4 S' : Nat → Prop) (M : List Bool) : Prop where
  wr : WrS W q base S' M
  mod : Mod S4 w4 W
  own : ∀ k, S' k → S4 k ∨ w4.heap.size ≤ k
section
variable {w4 X Y : World} {q base : Nat} {S4 S1 S2 : Nat → Prop} {M M2 : List Bool}
theorem BkI.next (h : BkI w4 X q base S4 S1 M) (hw : WrS Y q base S2 M2) (hm : Mod S1 X Y) (hs : ∀ k, S2 k → S1 k ∨ X.heap.size ≤ k) : BkI w4 Y q base S4 S2 M2 :=
  ⟨hw, h.mod.trans hm h.own, fun k hk => (hs k hk).elim (h.own k) (fun h2 => .inr (Nat.le_trans h.mod.size h2))⟩
theorem BkI.below (h : BkI w4 X q base S4 S1 M) (hb : Below X.heap.size X Y) : BkI w4 Y q base S4 S1 M :=
  ⟨h.wr.keep (Mod.of_below hb) (fun _ _ h => h), h.mod.then_ ((Mod.of_below hb).mono fun _ h => h.elim), h.own⟩
end
theorem clsB_len {zs : List Int} (hr : caR zs = true) {c : Nat × Nat × Nat} (hc : c.2.1 ≤ 13) : (clsB zs c).length ≤ 28 := by
  have h := symB_len hr (c.1 : Int)
  unfold clsB
  rw [List.length_append, bitsOf_length]
  omega
theorem toksB_len {z1 z2 : List Int} (h1 : caR z1 = true) (h2 : caR z2 = true) : ∀ {ts : List Tk}, (∀ t ∈ ts, okT t) → (toksB z1 z2 ts).length ≤ 56 * ts.length
  | [], _ => Nat.zero_le _
  | t :: ts, h => by
    have hok := h t List.mem_cons_self
    have ih := toksB_len h1 h2 (ts := ts) (fun x hx => h x (List.mem_cons_of_mem _ hx))
    have a1 := clsB_len h1 (cls1_lt hok).2.1
    have a2 := clsB_len h2 (cls2_lt hok).2.1
    have e : toksB z1 z2 (t :: ts) = tokB z1 z2 t ++ toksB z1 z2 ts := rfl
    rw [e, List.length_append, List.length_cons]
    have a3 : (tokB z1 z2 t).length ≤ 56 := by
      unfold tokB
      rw [List.length_append]
      split
      · omega
      · rw [List.length_nil]; omega
    omega
theorem TkAt.mod {w W : World} {S : Nat → Prop} {A : Option Addr} {k : Nat} {y l d : Int} (h : TkAt w A k y l d) (hm : Mod S w W) (hA : ∀ a, A = some a → ¬ S a.block) : TkAt W A k y l d := by
  obtain ⟨b, o, rfl, h2, h3, h4, h5⟩ := h
  have hb := hm.block b h2 (hA _ rfl)
  exact ⟨b, o, rfl, Nat.lt_of_lt_of_le h2 hm.size, (World.cell?_of_block (a := ⟨b, o + k * 3, none⟩) hb).trans h3, (World.cell?_of_block (a := ⟨b, o + k * 3 + 1, none⟩) hb).trans h4, (World.cell?_of_block (a := ⟨b, o + k * 3 + 2, none⟩) hb).trans h5⟩
set_option maxRecDepth 100000 in
set_option maxHeartbeats 4000000 in
theorem blkput_any (A : Option Addr) (l c q base : Nat) (ts : List Tk) (S : Nat → Prop) (L : List Bool) (w : World) (hl : ts.length = l) (hm : l ≤ 65536) (hk : ∀ t ∈ ts, okT t) (hc : ∀ k t, ts[k]? = some t → TkAt w A k (t.1.toNat : Int) (t.2.1 : Int) (t.2.2 : Int)) (hA : 0 < l → ∀ a, A = some a → ¬ S a.block)
    (hw : WrS w q base S L) (hL : L.length ≤ 1000) (hbase : base ≤ w.heap.size) :
    Calls Tryz.prog 7 #[.pointer (some ⟨q, 0, none⟩), .slice A l c] w fun e w' => e = .returned (.int .i64 0) ∧ ∃ S', WrS w' q base S' (L ++ blkB ts) ∧ Mod S w w' ∧ ∀ k, S' k → S k ∨ w.heap.size ≤ k := by
  have HWT := Lib.hid (weights_gen A l c ts w hm hk hc (.inl hl))
  have HW := Lib.hid hw
  have HK := Lib.hid hk
  have HL := Lib.hid hl
  have HA := Lib.hid hA
  have HC := Lib.hid hc
  have HR1 : Hid (caR (zN (lensW (wt1 ts))) = true) := by
    obtain ⟨x, hx, h0⟩ := wt1_end ts
    exact lensW_caR (by rw [wt1_len]; omega) hx h0
  have HR2 : Hid (caR (zN (lensW (wt2 ts))) = true) := by
    obtain ⟨s, x, hx, h0⟩ := wt2_some ts hk
    exact lensW_caR (by rw [wt2_len]; omega) hx h0
  have HSL : Hid (∀ k, S k → k < w.heap.size) := hw.lt
  clear hw hk hl hA hc
  go_enter Tryz.func7, Tryz.ntmps7
  go_wp2_with fail
  refine HWT.out.mono ?_
  rintro e w2 ⟨hb2, ⟨hlt, _⟩ | ⟨_, g1, g2, rfl, hn1, hn2, hg1, hg2⟩⟩
  · have := HL.out
    omega
  have HB2 := Lib.hid hb2
  have hw2s := hb2.size
  have HN1 := Lib.hid hn1
  have HN2 := Lib.hid hn2
  have HT1 := Lib.hid (putTable_any (some ⟨g1, 0, none⟩) 273 273 q base (wt1 ts) S L w2 (wt1_len ts) (by omega) (NB.cellsT hn1) (fun x hx => by
      have h1 := incW_le 273 _ x hx
      rw [List.length_append, fsts, List.length_map, HL.out] at h1
      simp at h1
      omega) (by obtain ⟨x, h1, h2⟩ := wt1_end ts; exact ⟨256, x, h1, h2⟩) (HW.out.keep (Mod.of_below hb2) (fun _ _ h => h)) (by omega) (by omega))
  have HT2 : Hid (∀ (W : World) (S' : Nat → Prop) (L' : List Bool), NB W g2 (wt2 ts) → WrS W q base S' L' → L'.length ≤ 100000000 → base ≤ W.heap.size → _) := fun W S' L' hn hw hl hb => putTable_any (some ⟨g2, 0, none⟩) 30 30 q base (wt2 ts) S' L' W (wt2_len ts) (by omega) (NB.cellsT hn) (fun x hx => by
      have h1 := incW_le 30 _ x hx
      have h2 := mts_len ts
      split at h1
      · simp at h1; omega
      · have := HL.out; omega) (wt2_some ts HK.out) hw hl hb
  have HTL : Hid (∀ ws : List Nat, ws.length ≤ 320 → (∃ s x : Nat, ws[s]? = some x ∧ 0 < x) → (tabP (lensW ws)).length ≤ 100000) := fun ws hws hex => by
    obtain ⟨s, x, hx, h0⟩ := hex
    have hv : ∀ y ∈ lensW ws, y ≤ 15 := fun y hy => by
      obtain ⟨k, hk⟩ := List.mem_iff_getElem?.1 hy
      have hkl := (List.getElem?_eq_some_iff.1 hk).1
      rw [lensW_len] at hkl
      have h2 := (lensW_pos (ns := ws) (by omega) (List.getElem?_eq_getElem hkl)).2
      rw [List.getD, hk] at h2
      exact h2
    obtain ⟨t, ht⟩ := partsP_ne (ls := lensW ws) (by rw [lensW_len]; have := (List.getElem?_eq_some_iff.1 hx).1; omega)
    have h2 := partsB_len (lnP_right ht (partsP_all hv t ht)) (partsP (lensW ws) 0)
    have h3 := parts_few (lensW ws)
    rw [lensW_len] at h3
    rw [tabP, List.length_append, List.length_append, bitsOf_length, lensB_len, lnP_len]
    omega
  have HTL1 := HTL.out (wt1 ts) (by rw [wt1_len]; omega) (by obtain ⟨x, h1, h2⟩ := wt1_end ts; exact ⟨256, x, h1, h2⟩)
  have HTL2 := HTL.out (wt2 ts) (by rw [wt2_len]; omega) (wt2_some ts HK.out)
  obtain ⟨z1, hz1⟩ : ∃ z1, zN (lensW (wt1 ts)) = z1 := ⟨_, rfl⟩
  obtain ⟨z2, hz2⟩ : ∃ z2, zN (lensW (wt2 ts)) = z2 := ⟨_, rfl⟩
  obtain ⟨T1, hT1⟩ : ∃ T1, tabP (lensW (wt1 ts)) = T1 := ⟨_, rfl⟩
  obtain ⟨T2, hT2⟩ : ∃ T2, tabP (lensW (wt2 ts)) = T2 := ⟨_, rfl⟩
  have HBLK : Hid (L ++ blkB ts = ((L ++ T1) ++ T2) ++ toksB z1 z2 ts ++ symB z1 256) := by show _ = _; rw [blkB, hz1, hz2, hT1, hT2]; simp only [List.append_assoc]
  rw [hz1] at HR1
  rw [hz2] at HR2
  rw [hz1, hT1] at HT1
  rw [hT1] at HTL1
  rw [hT2] at HTL2
  rw [hz2, hT2] at HT2
  clear hn1 hn2 hb2 hz1 hz2 hT1 hT2 HTL HWT
  go_wp2_with (first
    | (go_at_call 23; refine HT1.out.mono ?_; rintro e w3 ⟨ga, na, S3, rfl, hw3, hm3, hs3, hla, hna, hga⟩; clear HT1; have HW3 := Lib.hid hw3; have HM3 := Lib.hid hm3; have HS3 := Lib.hid hs3; have HLA := Lib.hid hla; have HNA := Lib.hid hna; have HGA := Lib.hid hga; have HN3 := Lib.hid (show NB w3 g2 (wt2 ts) from hm3.keep HN2.out (fun h => by have := HSL.out g2 h; omega)); clear hw3 hm3 hs3 hla hna hga)
    | (go_at_call 23; refine (HT2.out w3 S3 _ HN3.out HW3.out (by rw [List.length_append]; omega) (by have := HM3.out.size; omega)).mono ?_; rintro e w4 ⟨gb, nb, S4, rfl, hw4, hm4, hs4, hlb, hnb, hgb⟩; have HW4 := Lib.hid hw4; have HM4 := Lib.hid hm4; have HS4 := Lib.hid hs4; have HLB := Lib.hid hlb; have HNB4 := Lib.hid hnb; have HLA4 := Lib.hid (HLA.out.keep2 hm4 (fun k hk => .inl (HNA.out k hk))); clear hw4 hm4 hs4 hlb hnb hgb))
  have HOW : Hid (∀ k, S4 k → S k ∨ w.heap.size ≤ k) := fun k hk => (HS4.out k hk).elim (fun h => (HS3.out k h).imp id (fun h => by have := HB2.out.size; omega)) (fun h => .inr (by have := HB2.out.size; have := HM3.out.size; omega))
  have HMW : Hid (∀ W, Mod S4 w4 W → Mod S w W) := fun W hW => ((((Mod.of_below HB2.out).mono (fun _ h => h.elim)).then_ HM3.out).trans HM4.out (fun k hk => (HS3.out k hk).imp id (fun h => by have := HB2.out.size; omega))).trans hW HOW.out
  have HLAW : Hid (∀ W, Mod S4 w4 W → LCa W na ga z1) := fun W hW => HLA4.out.keep2 hW (fun k hk => (HS4.out k hk).imp (HNA.out k) (fun h => by have := HGA.out; omega))
  have HLBW : Hid (∀ W, Mod S4 w4 W → LCa W nb gb z2) := fun W hW => HLB.out.keep hW HNB4.out
  obtain ⟨M4, hM4⟩ : ∃ M4, (L ++ T1) ++ T2 = M4 := ⟨_, rfl⟩
  have HM4E := Lib.hid hM4
  have hM4l : M4.length ≤ 300000 := by rw [← hM4, List.length_append, List.length_append]; omega
  have HI0 : Hid (BkI w4 w4 q base S4 S4 (M4 ++ toksB z1 z2 (ts.take 0))) := ⟨by have h := HW4.out; rw [hM4] at h; simpa [toksB] using h, Mod.refl _ _, fun _ h => .inl h⟩
  have HTB : Hid (∀ k, (toksB z1 z2 (ts.take k)).length ≤ 3700000) := fun k => by
    have h := toksB_len HR1.out HR2.out (ts := ts.take k) (fun t ht => HK.out t (List.mem_of_mem_take ht))
    rw [List.length_take] at h
    omega
  clear hM4 HW4 HN1 HN2 HN3 HLA HW3 HTL1 HTL2 HT2
  go_loopg [32] l (fun gk i wr => ∃ (k : Nat) (S' : Nat → Prop), k + gk = l ∧ i = .int .i64 (k : Int) ∧ BkI w4 wr q base S4 S' (M4 ++ toksB z1 z2 (ts.take k)))
  case atStart => exact ⟨0, S4, by omega, rfl, HI0.out⟩
  case round =>
    obtain ⟨k, S', hkg, rfl, hbi⟩ := hrel
    have HBI := Lib.hid hbi
    have htb := HTB.out k
    have hlen : (M4 ++ toksB z1 z2 (ts.take k)).length ≤ 4000000 := by rw [List.length_append]; omega
    clear hbi HI0
    by_cases hkl : k < l
    · obtain ⟨t, ht⟩ : ∃ t, ts[k]? = some t := ⟨_, List.getElem?_eq_getElem (by rw [HL.out]; exact hkl)⟩
      have hok := HK.out t (List.mem_of_getElem? ht)
      have HSP := Lib.hid (fun W => splitT_any t W hok)
      have hc1 := cls1_lt hok
      have hc2 := cls2_lt hok
      have HTK : Hid (toksB z1 z2 (ts.take (k + 1)) = toksB z1 z2 (ts.take k) ++ tokB z1 z2 t) := by show _ = _; rw [List.take_add_one, ht, ← toksB_snoc]; rfl
      have HTO : Hid (tokB z1 z2 t = clsB z1 (cls1 t) ++ (if isM t then clsB z2 (cls2 t) else [])) := rfl
      obtain ⟨b, o, rfl, hbB, v0, v1, v2⟩ := (HC.out k t ht).mod (HMW.out wr HBI.out.mod) (HA.out (by omega))
      obtain ⟨⟨n1, b1, x1⟩, hq1⟩ : ∃ q, cls1 t = q := ⟨_, rfl⟩
      obtain ⟨⟨n2, b2, x2⟩, hq2⟩ : ∃ q, cls2 t = q := ⟨_, rfl⟩
      rw [hq1] at HSP HTO hc1
      rw [hq2] at HSP HTO hc2
      obtain ⟨m, hmm⟩ : ∃ m, isM t = m := ⟨_, rfl⟩
      rw [hmm] at HSP HTO
      dsimp only at HSP hc1 hc2
      clear ht hok hq1 hq2 hmm htb hbB
      cases m with
      | true =>
          go_upto_region 11 with (go_at_call 24; refine (HSP.out _).mono ?_; rintro e w6 ⟨rfl, hb6⟩; unfold agR; have hb7 := ((Below.refl wr.heap.size wr).alloc (Nat.le_refl _) (.cells #[.int .u8 (t.1.toNat : Int), .int .i64 (t.2.1 : Int), .int .i64 (t.2.2 : Int)] 52)).trans (hb6.mono (by simp)); obtain ⟨W5, hW5⟩ : ∃ W5, w6.alloc (.cells #[.int .i64 (n1 : Int), .int .i64 (b1 : Int), .int .u32 (x1 : Int), .int .i64 (n2 : Int), .int .i64 (b2 : Int), .int .u32 (x2 : Int), .bool true] 61) = W5 := ⟨_, rfl⟩; have hb8 : Below wr.heap.size wr W5 := (by rw [← hW5]; exact hb7.alloc hb7.size _); have hx5 : W5.heap[w6.heap.size]? = some (.cells #[.int .i64 (n1 : Int), .int .i64 (b1 : Int), .int .u32 (x1 : Int), .int .i64 (n2 : Int), .int .i64 (b2 : Int), .int .u32 (x2 : Int), .bool true] 61 (0, 0)) := (by rw [← hW5]; exact heap_alloc_new w6 _); have hs6 : wr.heap.size ≤ w6.heap.size := hb7.size; have HW5 := Lib.hid hW5; clear hW5 hb6 hb7)
          rw [HW5.out]
          have HI5 := Lib.hid (HBI.out.below hb8)
          have HX5 := Lib.hid hx5
          have r0 : W5.cell? ⟨w6.heap.size, 0, none⟩ = some (.int .i64 (n1 : Int)) := cell_of_row _ _ 0 _ _ _ hx5
          have r1 : W5.cell? ⟨w6.heap.size, 1, none⟩ = some (.int .i64 (b1 : Int)) := cell_of_row _ _ 1 _ _ _ hx5
          have r2 : W5.cell? ⟨w6.heap.size, 2, none⟩ = some (.int .u32 (x1 : Int)) := cell_of_row _ _ 2 _ _ _ hx5
          have hbw5 : base ≤ W5.heap.size := by have := HI5.out.mod.size; have := HM4.out.size; have := HM3.out.size; omega
          have HP1 := Lib.hid (putClass_any ga q base na z1 S' (M4 ++ toksB z1 z2 (ts.take k)) (n1, b1, x1) W5 HR1.out (HLAW.out W5 HI5.out.mod) HI5.out.wr (by omega) hbw5 hc1.2.1 hc1.2.2)
          have HLT : Hid (∀ j, S' j → j < wr.heap.size) := HBI.out.wr.lt
          clear hb8 hx5 HW5
          go_wp2_with (first
            | (go_at_call 25; refine HP1.out.mono ?_; rintro e w7 ⟨rfl, S7, hw7, hm7, hs7⟩; clear HP1; have HI7 := Lib.hid (HI5.out.next hw7 hm7 hs7); have hx7 := hm7.keep HX5.out (fun h => by have := HLT.out _ h; omega); have r3 : w7.cell? ⟨w6.heap.size, 3, none⟩ = some (.int .i64 (n2 : Int)) := cell_of_row _ _ 3 _ _ _ hx7; have r4 : w7.cell? ⟨w6.heap.size, 4, none⟩ = some (.int .i64 (b2 : Int)) := cell_of_row _ _ 4 _ _ _ hx7; have r5 : w7.cell? ⟨w6.heap.size, 5, none⟩ = some (.int .u32 (x2 : Int)) := cell_of_row _ _ 5 _ _ _ hx7; have r6 : w7.cell? ⟨w6.heap.size, 6, none⟩ = some (.bool true) := cell_of_row _ _ 6 _ _ _ hx7; have HP2 := Lib.hid (putClass_any gb q base nb z2 S7 ((M4 ++ toksB z1 z2 (ts.take k)) ++ clsB z1 (n1, b1, x1)) (n2, b2, x2) w7 HR2.out (HLBW.out w7 HI7.out.mod) HI7.out.wr (by rw [List.length_append]; have := clsB_len HR1.out (c := (n1, b1, x1)) hc1.2.1; omega) (by have := hm7.size; omega) hc2.2.1 hc2.2.2); clear hw7 hm7 hs7 hx7)
            | (go_at_call 25; refine HP2.out.mono ?_; rintro e w8 ⟨rfl, S8, hw8, hm8, hs8⟩; have HI8 := Lib.hid (HI7.out.next hw8 hm8 hs8); clear hw8 hm8 hs8))
          go_roundg (gk - 1)
          case measure => omega
          case rel =>
            refine ⟨k + 1, S8, by omega, by go_num, ?_⟩
            have h := HI8.out
            rw [HTK.out, HTO.out]
            simpa only [if_true, Bool.false_eq_true, if_false, List.append_nil, List.append_assoc] using h
      | false =>
          go_upto_region 11 with (go_at_call 24; refine (HSP.out _).mono ?_; rintro e w6 ⟨rfl, hb6⟩; unfold agR; have hb7 := ((Below.refl wr.heap.size wr).alloc (Nat.le_refl _) (.cells #[.int .u8 (t.1.toNat : Int), .int .i64 (t.2.1 : Int), .int .i64 (t.2.2 : Int)] 52)).trans (hb6.mono (by simp)); obtain ⟨W5, hW5⟩ : ∃ W5, w6.alloc (.cells #[.int .i64 (n1 : Int), .int .i64 (b1 : Int), .int .u32 (x1 : Int), .int .i64 (n2 : Int), .int .i64 (b2 : Int), .int .u32 (x2 : Int), .bool false] 61) = W5 := ⟨_, rfl⟩; have hb8 : Below wr.heap.size wr W5 := (by rw [← hW5]; exact hb7.alloc hb7.size _); have hx5 : W5.heap[w6.heap.size]? = some (.cells #[.int .i64 (n1 : Int), .int .i64 (b1 : Int), .int .u32 (x1 : Int), .int .i64 (n2 : Int), .int .i64 (b2 : Int), .int .u32 (x2 : Int), .bool false] 61 (0, 0)) := (by rw [← hW5]; exact heap_alloc_new w6 _); have hs6 : wr.heap.size ≤ w6.heap.size := hb7.size; have HW5 := Lib.hid hW5; clear hW5 hb6 hb7)
          rw [HW5.out]
          have HI5 := Lib.hid (HBI.out.below hb8)
          have HX5 := Lib.hid hx5
          have r0 : W5.cell? ⟨w6.heap.size, 0, none⟩ = some (.int .i64 (n1 : Int)) := cell_of_row _ _ 0 _ _ _ hx5
          have r1 : W5.cell? ⟨w6.heap.size, 1, none⟩ = some (.int .i64 (b1 : Int)) := cell_of_row _ _ 1 _ _ _ hx5
          have r2 : W5.cell? ⟨w6.heap.size, 2, none⟩ = some (.int .u32 (x1 : Int)) := cell_of_row _ _ 2 _ _ _ hx5
          have hbw5 : base ≤ W5.heap.size := by have := HI5.out.mod.size; have := HM4.out.size; have := HM3.out.size; omega
          have HP1 := Lib.hid (putClass_any ga q base na z1 S' (M4 ++ toksB z1 z2 (ts.take k)) (n1, b1, x1) W5 HR1.out (HLAW.out W5 HI5.out.mod) HI5.out.wr (by omega) hbw5 hc1.2.1 hc1.2.2)
          have HLT : Hid (∀ j, S' j → j < wr.heap.size) := HBI.out.wr.lt
          clear hb8 hx5 HW5
          go_wp2_with (first
            | (go_at_call 25; refine HP1.out.mono ?_; rintro e w7 ⟨rfl, S7, hw7, hm7, hs7⟩; clear HP1; have HI7 := Lib.hid (HI5.out.next hw7 hm7 hs7); have hx7 := hm7.keep HX5.out (fun h => by have := HLT.out _ h; omega); have r3 : w7.cell? ⟨w6.heap.size, 3, none⟩ = some (.int .i64 (n2 : Int)) := cell_of_row _ _ 3 _ _ _ hx7; have r4 : w7.cell? ⟨w6.heap.size, 4, none⟩ = some (.int .i64 (b2 : Int)) := cell_of_row _ _ 4 _ _ _ hx7; have r5 : w7.cell? ⟨w6.heap.size, 5, none⟩ = some (.int .u32 (x2 : Int)) := cell_of_row _ _ 5 _ _ _ hx7; have r6 : w7.cell? ⟨w6.heap.size, 6, none⟩ = some (.bool false) := cell_of_row _ _ 6 _ _ _ hx7;  clear hw7 hm7 hs7 hx7))
          go_roundg (gk - 1)
          case measure => omega
          case rel =>
            refine ⟨k + 1, S7, by omega, by go_num, ?_⟩
            have h := HI7.out
            rw [HTK.out, HTO.out]
            simpa only [if_true, Bool.false_eq_true, if_false, List.append_nil, List.append_assoc] using h
    · obtain rfl : k = l := by omega
      rw [show ts.take k = ts from List.take_of_length_le (by rw [HL.out]; exact Nat.le_refl _)] at HBI hlen
      have HP9 := Lib.hid (put8_any ga q base z1 S' (M4 ++ toksB z1 z2 ts) 256 wr HR1.out (HLAW.out wr HBI.out.mod).lc HBI.out.wr (by omega) (by have := HBI.out.mod.size; have := HM4.out.size; have := HM3.out.size; omega))
      go_wp2_with (go_at_call 26; refine HP9.out.mono ?_; rintro e w9 ⟨rfl, S9, hw9, hm9, hs9⟩; have HI9 := Lib.hid (HBI.out.next hw9 hm9 hs9); clear hw9 hm9 hs9)
      go_ret
      refine ⟨rfl, S9, ?_, HMW.out _ HI9.out.mod, fun j hj => (HI9.out.own j hj).elim (HOW.out j) (fun h => .inr (by have := HM4.out.size; have := HM3.out.size; have := HB2.out.size; omega))⟩
      have h := HI9.out.wr
      rw [HBLK.out, HM4E.out]
      exact h
end Go.Proofs.YtgbbdgoleiolhaaGreat
/- Layer 13: the reference's Right and Weights. -/
namespace Go.Proofs.YtgbbdgoleiolhaaGreat
open Go.RowKit BitsP SymP
attribute [local go_sem ↓] Go.wp_at_zero Go.wp_at_succ

/-- A token's symbols, of the reference. -/
theorem rsplitT_any (t : Tk) (w : World) (h : okT t) :
    Calls Tryz.prog 32 #[.agg #[.int .u8 (t.1.toNat : Int), .int .i64 (t.2.1 : Int), .int .i64 (t.2.2 : Int)]] w fun e w' => e = .returned (.tuple #[agC ((cls1 t).1 : Nat) ((cls1 t).2.1 : Nat) ((cls1 t).2.2 : Nat), agC ((cls2 t).1 : Nat) ((cls2 t).2.1 : Nat) ((cls2 t).2.2 : Nat), .bool (isM t)]) ∧ Below w.heap.size w w' := by
  obtain ⟨y, l, d⟩ := t
  rcases h with ⟨h1, h2⟩ | ⟨h1, h2, h3, h4, h5⟩
  · dsimp only at h1 h2
    subst h1 h2
    have e1 : cls1 (y, 0, 0) = (y.toNat, 0, 0) := by unfold cls1; rw [if_pos rfl]
    have e2 : cls2 (y, 0, 0) = (0, 0, 0) := by unfold cls2; rw [if_pos rfl]
    have e3 : isM (y, 0, 0) = false := by unfold isM; simp
    rw [e1, e2, e3]
    exact rsplit_byte y.toNat w y.toNat_lt
  · dsimp only at h1 h2 h3 h4 h5
    subst h5
    obtain ⟨l', rfl⟩ : ∃ l', l = l' + 3 := ⟨l - 3, by omega⟩
    obtain ⟨d', rfl⟩ : ∃ d', d = d' + 1 := ⟨d - 1, by omega⟩
    have e1 : cls1 (0, l' + 3, d' + 1) = (classC l' + 257, bitsC (classC l'), l' % 2 ^ bitsC (classC l')) := by unfold cls1; rw [if_neg (by dsimp only; omega)]; rfl
    have e2 : cls2 (0, l' + 3, d' + 1) = (classC d', bitsC (classC d'), d' % 2 ^ bitsC (classC d')) := by unfold cls2; rw [if_neg (by dsimp only; omega)]; rfl
    have e3 : isM (0, l' + 3, d' + 1) = true := by unfold isM; simp
    rw [e1, e2, e3]
    exact rsplit_match l' d' w (by omega) (by omega)
theorem okT_rightT {t : Tk} (h : okT t) : rightT (t.1.toNat : Int) (t.2.1 : Int) (t.2.2 : Int) = true := by
  obtain ⟨y, l, d⟩ := t
  unfold rightT
  rcases h with ⟨h1, h2⟩ | ⟨h1, h2, h3, h4, h5⟩
  · dsimp only at h1 h2 ⊢
    rw [if_pos (by omega)]
    exact decide_eq_true (by omega)
  · dsimp only at h1 h2 h3 h4 h5 ⊢
    rw [if_neg (by omega)]
    subst h5
    exact decide_eq_true ⟨by omega, by omega, by omega, by omega, rfl⟩
/-- Whether all tokens are ones. -/
theorem rright13_any (A : Option Addr) (l c : Nat) (ts : List Tk) (w : World) (hm : l ≤ 65536) (hk : ∀ t ∈ ts, okT t) (hc : ∀ k t, ts[k]? = some t → TkAt w A k (t.1.toNat : Int) (t.2.1 : Int) (t.2.2 : Int)) (hend : ts.length = l ∨ (ts.length < l ∧ ∃ y ln d, TkAt w A ts.length y ln d ∧ rightT y ln d = false)) :
    Calls Tryz.prog 9 #[.slice A l c] w fun e w' => e = .returned (.bool (decide (ts.length = l))) ∧ Below w.heap.size w w' := by
  obtain ⟨n, hn⟩ : ∃ n, ts.length = n := ⟨_, rfl⟩
  have HN := Lib.hid hn
  have HK := Lib.hid hk
  have HC := Lib.hid hc
  rw [hn] at hend ⊢
  have HEND := Lib.hid hend
  have hnl : n ≤ l := by rcases hend with h | ⟨h, _⟩ <;> omega
  clear hk hc hend hn
  go_enter Tryz.func9, Tryz.ntmps9
  go_wp2
  go_loopg [2, 3] l (fun gk _s2 i wr => ∃ k : Nat, k + gk = l ∧ i = .int .i64 (k : Int) ∧ k ≤ n ∧ Below w.heap.size w wr)
  case atStart => exact ⟨0, by omega, rfl, Nat.zero_le _, Below.refl _ _⟩
  case round =>
    obtain ⟨k, hkg, rfl, hkn, hbel⟩ := hrel
    have HBEL := Lib.hid hbel
    clear hbel
    by_cases hkl : k < n
    · obtain ⟨t, ht⟩ : ∃ t, ts[k]? = some t := ⟨_, List.getElem?_eq_getElem (by rw [HN.out]; exact hkl)⟩
      have HR := Lib.hid (fun W => rright_any (t.1.toNat : Int) (t.2.1 : Int) (t.2.2 : Int) W)
      rw [okT_rightT (HK.out t (List.mem_of_getElem? ht))] at HR
      obtain ⟨b, o, rfl, hbB, v0, v1, v2⟩ := (HC.out k t ht).below HBEL.out
      have HX : Hid (Below w.heap.size w (wr.alloc (.cells #[.int .u8 (t.1.toNat : Int), .int .i64 (t.2.1 : Int), .int .i64 (t.2.2 : Int)] 52))) := HBEL.out.alloc HBEL.out.size _
      clear ht
      go_wp2_with (go_at_call 27; refine (HR.out _).mono ?_; rintro e w4 ⟨rfl, rfl⟩)
      go_roundg (gk - 1)
      case measure => omega
      case rel => exact ⟨k + 1, by omega, by go_num, by omega, HX.out⟩
    · obtain rfl : k = n := by omega
      by_cases hlast : k < l
      · obtain ⟨y, ln, d, hta, hrt⟩ : ∃ y ln d, TkAt w A k y ln d ∧ rightT y ln d = false := by
          rcases HEND.out with h | ⟨_, h⟩
          · omega
          · exact h
        have HR := Lib.hid (fun W => rright_any y ln d W)
        rw [hrt] at HR
        obtain ⟨b, o, rfl, hbB, v0, v1, v2⟩ := hta.below HBEL.out
        have HX : Hid (Below w.heap.size w (wr.alloc (.cells #[.int .u8 y, .int .i64 ln, .int .i64 d] 52))) := HBEL.out.alloc HBEL.out.size _
        have hd : decide (k = l) = false := decide_eq_false (by omega)
        clear hta hrt
        go_wp2_with (go_at_call 27; refine (HR.out _).mono ?_; rintro e w4 ⟨rfl, rfl⟩)
        go_ret
        exact ⟨by rw [hd]; rfl, HX.out⟩
      · obtain rfl : k = l := by omega
        go_wp2
        go_ret
        exact ⟨by simp; omega, HBEL.out⟩
theorem wt1_ref (ts : List Tk) : incW (List.replicate 273 0) (256 :: fsts ts) = wt1 ts := by
  apply List.ext_getElem?
  intro s
  by_cases h : s < 273
  · rw [wt1, incW_at 273 _ h, incW_at 273 _ h, List.count_cons, List.count_append, List.count_cons, List.count_nil]
    congr 1
    omega
  · rw [List.getElem?_eq_none (by rw [incW_len, List.length_replicate]; omega), List.getElem?_eq_none (by rw [wt1_len]; omega)]
set_option maxRecDepth 100000 in
set_option maxHeartbeats 4000000 in
theorem rweights_any (A : Option Addr) (l c : Nat) (ts : List Tk) (w : World) (hl : ts.length = l) (hm : l ≤ 65536) (hk : ∀ t ∈ ts, okT t) (hc : ∀ k t, ts[k]? = some t → TkAt w A k (t.1.toNat : Int) (t.2.1 : Int) (t.2.2 : Int)) :
    Calls Tryz.prog 28 #[.slice A l c] w fun e w' => Below w.heap.size w w' ∧ ∃ g1 g2, e = .returned (.tuple #[.slice (some ⟨g1, 0, none⟩) 273 273, .slice (some ⟨g2, 0, none⟩) 30 30]) ∧ NB w' g1 (wt1 ts) ∧ NB w' g2 (wt2 ts) ∧ w.heap.size ≤ g1 ∧ w.heap.size ≤ g2 := by
  have HL := Lib.hid hl
  have HK := Lib.hid hk
  have HC := Lib.hid hc
  have mk1 : ∀ W, (Instr.makeSlice 53 (.int .i64 273) (.int .i64 273)).run Tryz.prog W = .ok (.slice (some ⟨W.heap.size, 0, none⟩) 273 273) (W.alloc (.cells (madeCells #[.int .i64 0] 273) 3)) := fun W => make_ints 273 (by omega) W
  have mk2 : ∀ W, (Instr.makeSlice 53 (.int .i64 30) (.int .i64 30)).run Tryz.prog W = .ok (.slice (some ⟨W.heap.size, 0, none⟩) 30 30) (W.alloc (.cells (madeCells #[.int .i64 0] 30) 3)) := fun W => make_ints 30 (by omega) W
  clear hk hc hl
  go_enter Tryz.func28, Tryz.ntmps28
  go_upto_region 1 with fail
  go_region
  · have HZ1 : Hid (NB (((w.alloc (.cells (madeCells #[.int .i64 0] 273) 3)).alloc (.cells (madeCells #[.int .i64 0] 30) 3)).drew) w.heap.size (List.replicate 273 0)) := ((wei_made w 273).below (B := (w.alloc (.cells (madeCells #[.int .i64 0] 273) 3)).heap.size) (((Below.refl _ _).alloc (Nat.le_refl _) _).drew) (by simp))
    have HZ2 : Hid (NB (((w.alloc (.cells (madeCells #[.int .i64 0] 273) 3)).alloc (.cells (madeCells #[.int .i64 0] 30) 3)).drew) (w.heap.size + 1) (List.replicate 30 0)) := (by have h := wei_made (w.alloc (.cells (madeCells #[.int .i64 0] 273) 3)) 30; rw [World.size_alloc] at h; exact h)
    have HB0 : Hid (Below w.heap.size w (((w.alloc (.cells (madeCells #[.int .i64 0] 273) 3)).alloc (.cells (madeCells #[.int .i64 0] 30) 3)).drew)) := (((Below.refl w.heap.size w).alloc (Nat.le_refl _) _).alloc (by simp) _).drew
    obtain ⟨W0, hW0⟩ : ∃ W0, ((w.alloc (.cells (madeCells #[.int .i64 0] 273) 3)).alloc (.cells (madeCells #[.int .i64 0] 30) 3)).drew = W0 := ⟨_, rfl⟩
    rw [hW0] at HZ1 HZ2 HB0 ⊢
    clear hW0 mk1 mk2
    have f0 : W0.frozen? ⟨w.heap.size, 256, none⟩ = false := HZ1.out.free
    have q0 : W0.cell? ⟨w.heap.size, 256, none⟩ = some (.int .i64 ((0 : Nat) : Int)) := HZ1.out.cell (by simp)
    obtain ⟨V0, hV0⟩ : ∃ V0, W0.setCell ⟨w.heap.size, 256, none⟩ (.int .i64 1) = V0 := ⟨_, rfl⟩
    have HS1 : Hid (NB V0 w.heap.size (incW (List.replicate 273 0) (256 :: fsts (ts.take 0)))) := by
      show NB _ _ _
      rw [← hV0]
      exact HZ1.out.set 256 1
    have HS2 : Hid (NB V0 (w.heap.size + 1) (incW (List.replicate 30 0) (mts (ts.take 0)))) := by
      show NB _ _ _
      rw [← hV0]
      exact (Below.heap_setCell _ _ _ _ (by show (w.heap.size + 1) ≠ w.heap.size; omega)).trans HZ2.out
    have HSB : Hid (Below w.heap.size w V0) := by show Below _ _ _; rw [← hV0]; exact HB0.out.setCell (by show w.heap.size ≤ w.heap.size; omega) _
    have HV0 := Lib.hid hV0
    clear hV0
    go_upto_block 3 with fail
    rw [HV0.out]
    clear HV0 HZ1 HZ2 HB0 f0 q0
    go_wp2
    go_loopg [6, 7] l (fun gk s6 i wr => ∃ (k : Nat) (b6 : Bool), k + gk = l ∧ i = .int .i64 (k : Int) ∧ s6 = .bool b6 ∧ (b6 = true ↔ mts (ts.take k) = []) ∧ NB wr w.heap.size (incW (List.replicate 273 0) (256 :: fsts (ts.take k))) ∧ NB wr (w.heap.size + 1) (incW (List.replicate 30 0) (mts (ts.take k))) ∧ Below w.heap.size w wr)
    case atStart => exact ⟨0, true, by omega, rfl, rfl, by simp [mts], HS1.out, HS2.out, HSB.out⟩
    case round =>
      obtain ⟨k, b6, hkg, rfl, rfl, hb6, hn1, hn2, hbel⟩ := hrel
      have HNB1 := Lib.hid hn1
      have HNB2 := Lib.hid hn2
      have HBEL := Lib.hid hbel
      have HB6E := Lib.hid hb6
      clear hn1 hn2 hbel hb6 HS1 HS2 HSB
      have hml := mts_len (ts.take k)
      rw [List.length_take] at hml
      by_cases hkl : k < l
      · obtain ⟨t, ht⟩ : ∃ t, ts[k]? = some t := ⟨_, List.getElem?_eq_getElem (by rw [HL.out]; exact hkl)⟩
        have hok := HK.out t (List.mem_of_getElem? ht)
        have HSP := Lib.hid (fun W => rsplitT_any t W hok)
        have hc1 := cls1_lt hok
        have hc2 := cls2_lt hok
        have HTK : Hid (ts.take (k + 1) = ts.take k ++ [t]) := by show _ = _; rw [List.take_add_one, ht]; rfl
        have HF : Hid (256 :: fsts (ts.take (k + 1)) = (256 :: fsts (ts.take k)) ++ [(cls1 t).1]) := by show _ = _; rw [HTK.out, fsts_snoc]; rfl
        have HMT : Hid (mts (ts.take (k + 1)) = if isM t then mts (ts.take k) ++ [(cls2 t).1] else mts (ts.take k)) := by show _ = _; rw [HTK.out, mts_snoc]
        obtain ⟨b, o, rfl, hbB, v0, v1, v2⟩ := (HC.out k t ht).below HBEL.out
        have HA1 : Hid ((incW (List.replicate 273 0) (256 :: fsts (ts.take k)))[(cls1 t).1]? = some ((256 :: fsts (ts.take k)).count (cls1 t).1)) := incW_at 273 _ hc1.1
        have HA2 : Hid ((incW (List.replicate 30 0) (mts (ts.take k)))[(cls2 t).1]? = some ((mts (ts.take k)).count (cls2 t).1)) := incW_at 30 _ hc2.1
        have HU1 : Hid (incW (List.replicate 273 0) (256 :: fsts (ts.take (k + 1))) = (incW (List.replicate 273 0) (256 :: fsts (ts.take k))).set (cls1 t).1 ((256 :: fsts (ts.take k)).count (cls1 t).1 + 1)) := by
          show _ = _
          rw [HF.out, incW_append, incW_cons (incW (List.replicate 273 0) (256 :: fsts (ts.take k))), List.getD, HA1.out]
          rfl
        have HU2 : Hid (incW (List.replicate 30 0) (mts (ts.take k) ++ [(cls2 t).1]) = (incW (List.replicate 30 0) (mts (ts.take k))).set (cls2 t).1 ((mts (ts.take k)).count (cls2 t).1 + 1)) := by
          show _ = _
          rw [incW_append, incW_cons, List.getD, HA2.out]
          rfl
        have hcn1 : (256 :: fsts (ts.take k)).count (cls1 t).1 ≤ 65537 := by
          have h := List.count_le_length (a := (cls1 t).1) (l := 256 :: fsts (ts.take k))
          rw [List.length_cons, fsts_len, List.length_take] at h
          omega
        have hcn2 : (mts (ts.take k)).count (cls2 t).1 ≤ 65536 := by
          have h := List.count_le_length (a := (cls2 t).1) (l := mts (ts.take k))
          omega
        obtain ⟨l1, hl1⟩ : ∃ l1, incW (List.replicate 273 0) (256 :: fsts (ts.take k)) = l1 := ⟨_, rfl⟩
        obtain ⟨l2, hl2⟩ : ∃ l2, incW (List.replicate 30 0) (mts (ts.take k)) = l2 := ⟨_, rfl⟩
        have HL2 := Lib.hid hl2
        rw [hl1] at HNB1 HA1 HU1
        rw [hl2] at HNB2 HA2 HU2
        obtain ⟨a1, ha1⟩ : ∃ a1, (256 :: fsts (ts.take k)).count (cls1 t).1 = a1 := ⟨_, rfl⟩
        obtain ⟨a2, ha2⟩ : ∃ a2, (mts (ts.take k)).count (cls2 t).1 = a2 := ⟨_, rfl⟩
        rw [ha1] at HA1 HU1 hcn1
        rw [ha2] at HA2 HU2 hcn2
        obtain ⟨⟨n1, b1, x1⟩, hq1⟩ : ∃ q, cls1 t = q := ⟨_, rfl⟩
        obtain ⟨⟨n2, b2, x2⟩, hq2⟩ : ∃ q, cls2 t = q := ⟨_, rfl⟩
        rw [hq1] at HSP HA1 HU1 hc1
        rw [hq2] at HSP HA2 HU2 hc2 HMT
        obtain ⟨m, hmm⟩ : ∃ m, isM t = m := ⟨_, rfl⟩
        rw [hmm] at HSP HMT
        dsimp only at HSP HA1 HU1 HA2 HU2 HMT hc1 hc2
        have hn273 := hc1.1
        have hn30 := hc2.1
        clear ht hok hl1 hl2 ha1 ha2 hq1 hq2 hmm hc1 hc2 hml
        cases m with
        | true =>
          go_upto_region 8 with (go_at_call 32; refine (HSP.out _).mono ?_; rintro e w4 ⟨rfl, hb4⟩; unfold agC; obtain ⟨W5, hW5⟩ : ∃ W5, (w4.alloc (.cells #[.int .i64 (n1 : Int), .int .i64 (b1 : Int), .int .u32 (x1 : Int)] 71)).alloc (.cells #[.int .i64 (n2 : Int), .int .i64 (b2 : Int), .int .u32 (x2 : Int)] 71) = W5 := ⟨_, rfl⟩; have hb6 : Below wr.heap.size wr W5 := (by rw [← hW5]; exact (hb4.alloc hb4.size _).alloc (by have := hb4.size; simp; omega) _); have hx5 : W5.heap[w4.heap.size]? = some (.cells #[.int .i64 (n1 : Int), .int .i64 (b1 : Int), .int .u32 (x1 : Int)] 71 (0, 0)) := (by rw [← hW5]; exact (Below.heap_alloc _ _ _ (by simp)).trans (heap_alloc_new w4 _)); have hy5 : W5.heap[w4.heap.size + 1]? = some (.cells #[.int .i64 (n2 : Int), .int .i64 (b2 : Int), .int .u32 (x2 : Int)] 71 (0, 0)) := (by rw [← hW5]; have h := heap_alloc_new (w4.alloc (.cells #[.int .i64 (n1 : Int), .int .i64 (b1 : Int), .int .u32 (x1 : Int)] 71)) (.cells #[.int .i64 (n2 : Int), .int .i64 (b2 : Int), .int .u32 (x2 : Int)] 71); rw [World.size_alloc] at h; exact h); have hs4 : wr.heap.size ≤ w4.heap.size := hb4.size; have HW5 := Lib.hid hW5; clear hW5 hb4)
          rw [HW5.out]
          have HB5 := Lib.hid hb6
          have HN5 := Lib.hid (HNB1.out.below hb6 HNB1.out.lt)
          have HM5 := Lib.hid (HNB2.out.below hb6 HNB2.out.lt)
          have r0 : W5.cell? ⟨w4.heap.size, 0, none⟩ = some (.int .i64 (n1 : Int)) := cell_of_row _ _ 0 _ _ _ hx5
          have q1 : W5.cell? ⟨w.heap.size, n1, none⟩ = some (.int .i64 (a1 : Int)) := HN5.out.cell HA1.out
          have f1 : W5.frozen? ⟨w.heap.size, n1, none⟩ = false := HN5.out.free
          obtain ⟨W6, hW6⟩ : ∃ W6, W5.setCell ⟨w.heap.size, n1, none⟩ (.int .i64 ((a1 : Int) + 1)) = W6 := ⟨_, rfl⟩
          have hl1 : w.heap.size < wr.heap.size := HNB1.out.lt
          have hl2 : (w.heap.size + 1) < wr.heap.size := HNB2.out.lt
          have hx6 : W6.heap[w4.heap.size + 1]? = some (.cells #[.int .i64 (n2 : Int), .int .i64 (b2 : Int), .int .u32 (x2 : Int)] 71 (0, 0)) := (by rw [← hW6]; exact (Below.heap_setCell _ _ _ _ (by show w4.heap.size + 1 ≠ w.heap.size; omega)).trans hy5)
          have r3 : W6.cell? ⟨w4.heap.size + 1, 0, none⟩ = some (.int .i64 (n2 : Int)) := cell_of_row _ _ 0 _ _ _ hx6
          have HN6 : Hid (NB W6 w.heap.size (l1.set n1 (a1 + 1))) := (by show NB _ _ _; rw [← hW6]; have h := HN5.out.set n1 (a1 + 1); push_cast at h; exact h)
          have HM6 : Hid (NB W6 (w.heap.size + 1) l2) := (by show NB _ _ _; rw [← hW6]; exact (Below.heap_setCell _ _ _ _ (by show (w.heap.size + 1) ≠ w.heap.size; omega)).trans HM5.out)
          have q2 : W6.cell? ⟨(w.heap.size + 1), n2, none⟩ = some (.int .i64 (a2 : Int)) := HM6.out.cell HA2.out
          have f2 : W6.frozen? ⟨(w.heap.size + 1), n2, none⟩ = false := HM6.out.free
          have HB6 : Hid (Below w.heap.size w W6) := (by show Below _ _ _; rw [← hW6]; exact (HBEL.out.trans (HB5.out.mono HBEL.out.size)).setCell (by show w.heap.size ≤ w.heap.size; omega) _)
          clear hb6 hx5 hx6 hy5
          go_wp2
          go_roundg (gk - 1)
          case measure => omega
          case rel =>
            refine ⟨k + 1, false, by omega, by go_num, rfl, ?_, ?_, ?_, HB6.out.setCell (by show w.heap.size ≤ (w.heap.size + 1); omega) _⟩
            · rw [HMT.out, if_pos trivial]
              simp
            · rw [HU1.out]
              exact (Below.heap_setCell _ _ _ _ (by show w.heap.size ≠ (w.heap.size + 1); omega)).trans HN6.out
            · rw [HMT.out, if_pos trivial, HU2.out]
              have h := HM6.out.set n2 (a2 + 1)
              push_cast at h
              exact h
        | false =>
          go_upto_region 8 with (go_at_call 32; refine (HSP.out _).mono ?_; rintro e w4 ⟨rfl, hb4⟩; unfold agC; obtain ⟨W5, hW5⟩ : ∃ W5, (w4.alloc (.cells #[.int .i64 (n1 : Int), .int .i64 (b1 : Int), .int .u32 (x1 : Int)] 71)).alloc (.cells #[.int .i64 (n2 : Int), .int .i64 (b2 : Int), .int .u32 (x2 : Int)] 71) = W5 := ⟨_, rfl⟩; have hb6 : Below wr.heap.size wr W5 := (by rw [← hW5]; exact (hb4.alloc hb4.size _).alloc (by have := hb4.size; simp; omega) _); have hx5 : W5.heap[w4.heap.size]? = some (.cells #[.int .i64 (n1 : Int), .int .i64 (b1 : Int), .int .u32 (x1 : Int)] 71 (0, 0)) := (by rw [← hW5]; exact (Below.heap_alloc _ _ _ (by simp)).trans (heap_alloc_new w4 _)); have hy5 : W5.heap[w4.heap.size + 1]? = some (.cells #[.int .i64 (n2 : Int), .int .i64 (b2 : Int), .int .u32 (x2 : Int)] 71 (0, 0)) := (by rw [← hW5]; have h := heap_alloc_new (w4.alloc (.cells #[.int .i64 (n1 : Int), .int .i64 (b1 : Int), .int .u32 (x1 : Int)] 71)) (.cells #[.int .i64 (n2 : Int), .int .i64 (b2 : Int), .int .u32 (x2 : Int)] 71); rw [World.size_alloc] at h; exact h); have hs4 : wr.heap.size ≤ w4.heap.size := hb4.size; have HW5 := Lib.hid hW5; clear hW5 hb4)
          rw [HW5.out]
          have HB5 := Lib.hid hb6
          have HN5 := Lib.hid (HNB1.out.below hb6 HNB1.out.lt)
          have HM5 := Lib.hid (HNB2.out.below hb6 HNB2.out.lt)
          have r0 : W5.cell? ⟨w4.heap.size, 0, none⟩ = some (.int .i64 (n1 : Int)) := cell_of_row _ _ 0 _ _ _ hx5
          have q1 : W5.cell? ⟨w.heap.size, n1, none⟩ = some (.int .i64 (a1 : Int)) := HN5.out.cell HA1.out
          have f1 : W5.frozen? ⟨w.heap.size, n1, none⟩ = false := HN5.out.free
          obtain ⟨W6, hW6⟩ : ∃ W6, W5.setCell ⟨w.heap.size, n1, none⟩ (.int .i64 ((a1 : Int) + 1)) = W6 := ⟨_, rfl⟩
          have hl1 : w.heap.size < wr.heap.size := HNB1.out.lt
          have hl2 : (w.heap.size + 1) < wr.heap.size := HNB2.out.lt
          have hx6 : W6.heap[w4.heap.size + 1]? = some (.cells #[.int .i64 (n2 : Int), .int .i64 (b2 : Int), .int .u32 (x2 : Int)] 71 (0, 0)) := (by rw [← hW6]; exact (Below.heap_setCell _ _ _ _ (by show w4.heap.size + 1 ≠ w.heap.size; omega)).trans hy5)
          have r3 : W6.cell? ⟨w4.heap.size + 1, 0, none⟩ = some (.int .i64 (n2 : Int)) := cell_of_row _ _ 0 _ _ _ hx6
          have HN6 : Hid (NB W6 w.heap.size (l1.set n1 (a1 + 1))) := (by show NB _ _ _; rw [← hW6]; have h := HN5.out.set n1 (a1 + 1); push_cast at h; exact h)
          have HM6 : Hid (NB W6 (w.heap.size + 1) l2) := (by show NB _ _ _; rw [← hW6]; exact (Below.heap_setCell _ _ _ _ (by show (w.heap.size + 1) ≠ w.heap.size; omega)).trans HM5.out)
          have q2 : W6.cell? ⟨(w.heap.size + 1), n2, none⟩ = some (.int .i64 (a2 : Int)) := HM6.out.cell HA2.out
          have f2 : W6.frozen? ⟨(w.heap.size + 1), n2, none⟩ = false := HM6.out.free
          have HB6 : Hid (Below w.heap.size w W6) := (by show Below _ _ _; rw [← hW6]; exact (HBEL.out.trans (HB5.out.mono HBEL.out.size)).setCell (by show w.heap.size ≤ w.heap.size; omega) _)
          clear hb6 hx5 hx6 hy5
          go_wp2
          go_roundg (gk - 1)
          case measure => omega
          case rel =>
            refine ⟨k + 1, b6, by omega, by go_num, rfl, ?_, ?_, ?_, HB6.out⟩
            · rw [HMT.out, if_neg (by simp)]
              exact HB6E.out
            · rw [HU1.out]
              exact HN6.out
            · rw [HMT.out, if_neg (by simp), HL2.out]
              exact HM6.out
      · obtain rfl : k = l := by omega
        rw [show ts.take k = ts from List.take_of_length_le (by rw [HL.out]; exact Nat.le_refl _)] at HNB1 HNB2 HB6E
        rw [wt1_ref] at HNB1
        have hl1 : w.heap.size < wr.heap.size := HNB1.out.lt
        have hl2 : (w.heap.size + 1) < wr.heap.size := HNB2.out.lt
        cases b6 with
        | true =>
          have hnil : mts ts = [] := HB6E.out.1 rfl
          have hq0 : (incW (List.replicate 30 0) (mts ts))[0]? = some 0 := by rw [incW_at 30 _ (by decide), hnil]; rfl
          have q2 : wr.cell? ⟨(w.heap.size + 1), 0, none⟩ = some (.int .i64 ((0 : Nat) : Int)) := HNB2.out.cell hq0
          have f2 : wr.frozen? ⟨(w.heap.size + 1), 0, none⟩ = false := HNB2.out.free
          have HW2 : Hid (wt2 ts = (incW (List.replicate 30 0) (mts ts)).set 0 1) := by
            show _ = _
            rw [wt2, if_pos hnil, hnil]
            rfl
          clear hq0 hnil
          go_wp2
          refine bodyPost_ret (results_tmp2 rfl _ _ _) rfl ⟨HBEL.out.setCell (by show w.heap.size ≤ (w.heap.size + 1); omega) _, w.heap.size, (w.heap.size + 1), rfl, (Below.heap_setCell _ _ _ _ (by show w.heap.size ≠ (w.heap.size + 1); omega)).trans HNB1.out, by rw [HW2.out]; exact HNB2.out.set 0 1, by omega, by omega⟩
        | false =>
          have HW2 : Hid (wt2 ts = incW (List.replicate 30 0) (mts ts)) := by
            show _ = _
            rw [wt2, if_neg (fun e => by have := HB6E.out.2 e; cases this)]
          go_wp2
          refine bodyPost_ret (results_tmp2 rfl _ _ _) rfl ⟨HBEL.out, w.heap.size, (w.heap.size + 1), rfl, HNB1.out, by rw [HW2.out]; exact HNB2.out, by omega, by omega⟩
  · have HZ1 : Hid (NB (((w.alloc (.cells (madeCells #[.int .i64 0] 30) 3)).alloc (.cells (madeCells #[.int .i64 0] 273) 3)).drew) (w.heap.size + 1) (List.replicate 273 0)) := (by have h := wei_made (w.alloc (.cells (madeCells #[.int .i64 0] 30) 3)) 273; rw [World.size_alloc] at h; exact h)
    have HZ2 : Hid (NB (((w.alloc (.cells (madeCells #[.int .i64 0] 30) 3)).alloc (.cells (madeCells #[.int .i64 0] 273) 3)).drew) w.heap.size (List.replicate 30 0)) := ((wei_made w 30).below (B := (w.alloc (.cells (madeCells #[.int .i64 0] 30) 3)).heap.size) (((Below.refl _ _).alloc (Nat.le_refl _) _).drew) (by simp))
    have HB0 : Hid (Below w.heap.size w (((w.alloc (.cells (madeCells #[.int .i64 0] 30) 3)).alloc (.cells (madeCells #[.int .i64 0] 273) 3)).drew)) := (((Below.refl w.heap.size w).alloc (Nat.le_refl _) _).alloc (by simp) _).drew
    obtain ⟨W0, hW0⟩ : ∃ W0, ((w.alloc (.cells (madeCells #[.int .i64 0] 30) 3)).alloc (.cells (madeCells #[.int .i64 0] 273) 3)).drew = W0 := ⟨_, rfl⟩
    rw [hW0] at HZ1 HZ2 HB0 ⊢
    clear hW0 mk1 mk2
    have f0 : W0.frozen? ⟨(w.heap.size + 1), 256, none⟩ = false := HZ1.out.free
    have q0 : W0.cell? ⟨(w.heap.size + 1), 256, none⟩ = some (.int .i64 ((0 : Nat) : Int)) := HZ1.out.cell (by simp)
    obtain ⟨V0, hV0⟩ : ∃ V0, W0.setCell ⟨(w.heap.size + 1), 256, none⟩ (.int .i64 1) = V0 := ⟨_, rfl⟩
    have HS1 : Hid (NB V0 (w.heap.size + 1) (incW (List.replicate 273 0) (256 :: fsts (ts.take 0)))) := by
      show NB _ _ _
      rw [← hV0]
      exact HZ1.out.set 256 1
    have HS2 : Hid (NB V0 w.heap.size (incW (List.replicate 30 0) (mts (ts.take 0)))) := by
      show NB _ _ _
      rw [← hV0]
      exact (Below.heap_setCell _ _ _ _ (by show w.heap.size ≠ (w.heap.size + 1); omega)).trans HZ2.out
    have HSB : Hid (Below w.heap.size w V0) := by show Below _ _ _; rw [← hV0]; exact HB0.out.setCell (by show w.heap.size ≤ (w.heap.size + 1); omega) _
    have HV0 := Lib.hid hV0
    clear hV0
    go_upto_block 3 with fail
    rw [HV0.out]
    clear HV0 HZ1 HZ2 HB0 f0 q0
    go_wp2
    go_loopg [6, 7] l (fun gk s6 i wr => ∃ (k : Nat) (b6 : Bool), k + gk = l ∧ i = .int .i64 (k : Int) ∧ s6 = .bool b6 ∧ (b6 = true ↔ mts (ts.take k) = []) ∧ NB wr (w.heap.size + 1) (incW (List.replicate 273 0) (256 :: fsts (ts.take k))) ∧ NB wr w.heap.size (incW (List.replicate 30 0) (mts (ts.take k))) ∧ Below w.heap.size w wr)
    case atStart => exact ⟨0, true, by omega, rfl, rfl, by simp [mts], HS1.out, HS2.out, HSB.out⟩
    case round =>
      obtain ⟨k, b6, hkg, rfl, rfl, hb6, hn1, hn2, hbel⟩ := hrel
      have HNB1 := Lib.hid hn1
      have HNB2 := Lib.hid hn2
      have HBEL := Lib.hid hbel
      have HB6E := Lib.hid hb6
      clear hn1 hn2 hbel hb6 HS1 HS2 HSB
      have hml := mts_len (ts.take k)
      rw [List.length_take] at hml
      by_cases hkl : k < l
      · obtain ⟨t, ht⟩ : ∃ t, ts[k]? = some t := ⟨_, List.getElem?_eq_getElem (by rw [HL.out]; exact hkl)⟩
        have hok := HK.out t (List.mem_of_getElem? ht)
        have HSP := Lib.hid (fun W => rsplitT_any t W hok)
        have hc1 := cls1_lt hok
        have hc2 := cls2_lt hok
        have HTK : Hid (ts.take (k + 1) = ts.take k ++ [t]) := by show _ = _; rw [List.take_add_one, ht]; rfl
        have HF : Hid (256 :: fsts (ts.take (k + 1)) = (256 :: fsts (ts.take k)) ++ [(cls1 t).1]) := by show _ = _; rw [HTK.out, fsts_snoc]; rfl
        have HMT : Hid (mts (ts.take (k + 1)) = if isM t then mts (ts.take k) ++ [(cls2 t).1] else mts (ts.take k)) := by show _ = _; rw [HTK.out, mts_snoc]
        obtain ⟨b, o, rfl, hbB, v0, v1, v2⟩ := (HC.out k t ht).below HBEL.out
        have HA1 : Hid ((incW (List.replicate 273 0) (256 :: fsts (ts.take k)))[(cls1 t).1]? = some ((256 :: fsts (ts.take k)).count (cls1 t).1)) := incW_at 273 _ hc1.1
        have HA2 : Hid ((incW (List.replicate 30 0) (mts (ts.take k)))[(cls2 t).1]? = some ((mts (ts.take k)).count (cls2 t).1)) := incW_at 30 _ hc2.1
        have HU1 : Hid (incW (List.replicate 273 0) (256 :: fsts (ts.take (k + 1))) = (incW (List.replicate 273 0) (256 :: fsts (ts.take k))).set (cls1 t).1 ((256 :: fsts (ts.take k)).count (cls1 t).1 + 1)) := by
          show _ = _
          rw [HF.out, incW_append, incW_cons (incW (List.replicate 273 0) (256 :: fsts (ts.take k))), List.getD, HA1.out]
          rfl
        have HU2 : Hid (incW (List.replicate 30 0) (mts (ts.take k) ++ [(cls2 t).1]) = (incW (List.replicate 30 0) (mts (ts.take k))).set (cls2 t).1 ((mts (ts.take k)).count (cls2 t).1 + 1)) := by
          show _ = _
          rw [incW_append, incW_cons, List.getD, HA2.out]
          rfl
        have hcn1 : (256 :: fsts (ts.take k)).count (cls1 t).1 ≤ 65537 := by
          have h := List.count_le_length (a := (cls1 t).1) (l := 256 :: fsts (ts.take k))
          rw [List.length_cons, fsts_len, List.length_take] at h
          omega
        have hcn2 : (mts (ts.take k)).count (cls2 t).1 ≤ 65536 := by
          have h := List.count_le_length (a := (cls2 t).1) (l := mts (ts.take k))
          omega
        obtain ⟨l1, hl1⟩ : ∃ l1, incW (List.replicate 273 0) (256 :: fsts (ts.take k)) = l1 := ⟨_, rfl⟩
        obtain ⟨l2, hl2⟩ : ∃ l2, incW (List.replicate 30 0) (mts (ts.take k)) = l2 := ⟨_, rfl⟩
        have HL2 := Lib.hid hl2
        rw [hl1] at HNB1 HA1 HU1
        rw [hl2] at HNB2 HA2 HU2
        obtain ⟨a1, ha1⟩ : ∃ a1, (256 :: fsts (ts.take k)).count (cls1 t).1 = a1 := ⟨_, rfl⟩
        obtain ⟨a2, ha2⟩ : ∃ a2, (mts (ts.take k)).count (cls2 t).1 = a2 := ⟨_, rfl⟩
        rw [ha1] at HA1 HU1 hcn1
        rw [ha2] at HA2 HU2 hcn2
        obtain ⟨⟨n1, b1, x1⟩, hq1⟩ : ∃ q, cls1 t = q := ⟨_, rfl⟩
        obtain ⟨⟨n2, b2, x2⟩, hq2⟩ : ∃ q, cls2 t = q := ⟨_, rfl⟩
        rw [hq1] at HSP HA1 HU1 hc1
        rw [hq2] at HSP HA2 HU2 hc2 HMT
        obtain ⟨m, hmm⟩ : ∃ m, isM t = m := ⟨_, rfl⟩
        rw [hmm] at HSP HMT
        dsimp only at HSP HA1 HU1 HA2 HU2 HMT hc1 hc2
        have hn273 := hc1.1
        have hn30 := hc2.1
        clear ht hok hl1 hl2 ha1 ha2 hq1 hq2 hmm hc1 hc2 hml
        cases m with
        | true =>
          go_upto_region 8 with (go_at_call 32; refine (HSP.out _).mono ?_; rintro e w4 ⟨rfl, hb4⟩; unfold agC; obtain ⟨W5, hW5⟩ : ∃ W5, (w4.alloc (.cells #[.int .i64 (n1 : Int), .int .i64 (b1 : Int), .int .u32 (x1 : Int)] 71)).alloc (.cells #[.int .i64 (n2 : Int), .int .i64 (b2 : Int), .int .u32 (x2 : Int)] 71) = W5 := ⟨_, rfl⟩; have hb6 : Below wr.heap.size wr W5 := (by rw [← hW5]; exact (hb4.alloc hb4.size _).alloc (by have := hb4.size; simp; omega) _); have hx5 : W5.heap[w4.heap.size]? = some (.cells #[.int .i64 (n1 : Int), .int .i64 (b1 : Int), .int .u32 (x1 : Int)] 71 (0, 0)) := (by rw [← hW5]; exact (Below.heap_alloc _ _ _ (by simp)).trans (heap_alloc_new w4 _)); have hy5 : W5.heap[w4.heap.size + 1]? = some (.cells #[.int .i64 (n2 : Int), .int .i64 (b2 : Int), .int .u32 (x2 : Int)] 71 (0, 0)) := (by rw [← hW5]; have h := heap_alloc_new (w4.alloc (.cells #[.int .i64 (n1 : Int), .int .i64 (b1 : Int), .int .u32 (x1 : Int)] 71)) (.cells #[.int .i64 (n2 : Int), .int .i64 (b2 : Int), .int .u32 (x2 : Int)] 71); rw [World.size_alloc] at h; exact h); have hs4 : wr.heap.size ≤ w4.heap.size := hb4.size; have HW5 := Lib.hid hW5; clear hW5 hb4)
          rw [HW5.out]
          have HB5 := Lib.hid hb6
          have HN5 := Lib.hid (HNB1.out.below hb6 HNB1.out.lt)
          have HM5 := Lib.hid (HNB2.out.below hb6 HNB2.out.lt)
          have r0 : W5.cell? ⟨w4.heap.size, 0, none⟩ = some (.int .i64 (n1 : Int)) := cell_of_row _ _ 0 _ _ _ hx5
          have q1 : W5.cell? ⟨(w.heap.size + 1), n1, none⟩ = some (.int .i64 (a1 : Int)) := HN5.out.cell HA1.out
          have f1 : W5.frozen? ⟨(w.heap.size + 1), n1, none⟩ = false := HN5.out.free
          obtain ⟨W6, hW6⟩ : ∃ W6, W5.setCell ⟨(w.heap.size + 1), n1, none⟩ (.int .i64 ((a1 : Int) + 1)) = W6 := ⟨_, rfl⟩
          have hl1 : (w.heap.size + 1) < wr.heap.size := HNB1.out.lt
          have hl2 : w.heap.size < wr.heap.size := HNB2.out.lt
          have hx6 : W6.heap[w4.heap.size + 1]? = some (.cells #[.int .i64 (n2 : Int), .int .i64 (b2 : Int), .int .u32 (x2 : Int)] 71 (0, 0)) := (by rw [← hW6]; exact (Below.heap_setCell _ _ _ _ (by show w4.heap.size + 1 ≠ (w.heap.size + 1); omega)).trans hy5)
          have r3 : W6.cell? ⟨w4.heap.size + 1, 0, none⟩ = some (.int .i64 (n2 : Int)) := cell_of_row _ _ 0 _ _ _ hx6
          have HN6 : Hid (NB W6 (w.heap.size + 1) (l1.set n1 (a1 + 1))) := (by show NB _ _ _; rw [← hW6]; have h := HN5.out.set n1 (a1 + 1); push_cast at h; exact h)
          have HM6 : Hid (NB W6 w.heap.size l2) := (by show NB _ _ _; rw [← hW6]; exact (Below.heap_setCell _ _ _ _ (by show w.heap.size ≠ (w.heap.size + 1); omega)).trans HM5.out)
          have q2 : W6.cell? ⟨w.heap.size, n2, none⟩ = some (.int .i64 (a2 : Int)) := HM6.out.cell HA2.out
          have f2 : W6.frozen? ⟨w.heap.size, n2, none⟩ = false := HM6.out.free
          have HB6 : Hid (Below w.heap.size w W6) := (by show Below _ _ _; rw [← hW6]; exact (HBEL.out.trans (HB5.out.mono HBEL.out.size)).setCell (by show w.heap.size ≤ (w.heap.size + 1); omega) _)
          clear hb6 hx5 hx6 hy5
          go_wp2
          go_roundg (gk - 1)
          case measure => omega
          case rel =>
            refine ⟨k + 1, false, by omega, by go_num, rfl, ?_, ?_, ?_, HB6.out.setCell (by show w.heap.size ≤ w.heap.size; omega) _⟩
            · rw [HMT.out, if_pos trivial]
              simp
            · rw [HU1.out]
              exact (Below.heap_setCell _ _ _ _ (by show (w.heap.size + 1) ≠ w.heap.size; omega)).trans HN6.out
            · rw [HMT.out, if_pos trivial, HU2.out]
              have h := HM6.out.set n2 (a2 + 1)
              push_cast at h
              exact h
        | false =>
          go_upto_region 8 with (go_at_call 32; refine (HSP.out _).mono ?_; rintro e w4 ⟨rfl, hb4⟩; unfold agC; obtain ⟨W5, hW5⟩ : ∃ W5, (w4.alloc (.cells #[.int .i64 (n1 : Int), .int .i64 (b1 : Int), .int .u32 (x1 : Int)] 71)).alloc (.cells #[.int .i64 (n2 : Int), .int .i64 (b2 : Int), .int .u32 (x2 : Int)] 71) = W5 := ⟨_, rfl⟩; have hb6 : Below wr.heap.size wr W5 := (by rw [← hW5]; exact (hb4.alloc hb4.size _).alloc (by have := hb4.size; simp; omega) _); have hx5 : W5.heap[w4.heap.size]? = some (.cells #[.int .i64 (n1 : Int), .int .i64 (b1 : Int), .int .u32 (x1 : Int)] 71 (0, 0)) := (by rw [← hW5]; exact (Below.heap_alloc _ _ _ (by simp)).trans (heap_alloc_new w4 _)); have hy5 : W5.heap[w4.heap.size + 1]? = some (.cells #[.int .i64 (n2 : Int), .int .i64 (b2 : Int), .int .u32 (x2 : Int)] 71 (0, 0)) := (by rw [← hW5]; have h := heap_alloc_new (w4.alloc (.cells #[.int .i64 (n1 : Int), .int .i64 (b1 : Int), .int .u32 (x1 : Int)] 71)) (.cells #[.int .i64 (n2 : Int), .int .i64 (b2 : Int), .int .u32 (x2 : Int)] 71); rw [World.size_alloc] at h; exact h); have hs4 : wr.heap.size ≤ w4.heap.size := hb4.size; have HW5 := Lib.hid hW5; clear hW5 hb4)
          rw [HW5.out]
          have HB5 := Lib.hid hb6
          have HN5 := Lib.hid (HNB1.out.below hb6 HNB1.out.lt)
          have HM5 := Lib.hid (HNB2.out.below hb6 HNB2.out.lt)
          have r0 : W5.cell? ⟨w4.heap.size, 0, none⟩ = some (.int .i64 (n1 : Int)) := cell_of_row _ _ 0 _ _ _ hx5
          have q1 : W5.cell? ⟨(w.heap.size + 1), n1, none⟩ = some (.int .i64 (a1 : Int)) := HN5.out.cell HA1.out
          have f1 : W5.frozen? ⟨(w.heap.size + 1), n1, none⟩ = false := HN5.out.free
          obtain ⟨W6, hW6⟩ : ∃ W6, W5.setCell ⟨(w.heap.size + 1), n1, none⟩ (.int .i64 ((a1 : Int) + 1)) = W6 := ⟨_, rfl⟩
          have hl1 : (w.heap.size + 1) < wr.heap.size := HNB1.out.lt
          have hl2 : w.heap.size < wr.heap.size := HNB2.out.lt
          have hx6 : W6.heap[w4.heap.size + 1]? = some (.cells #[.int .i64 (n2 : Int), .int .i64 (b2 : Int), .int .u32 (x2 : Int)] 71 (0, 0)) := (by rw [← hW6]; exact (Below.heap_setCell _ _ _ _ (by show w4.heap.size + 1 ≠ (w.heap.size + 1); omega)).trans hy5)
          have r3 : W6.cell? ⟨w4.heap.size + 1, 0, none⟩ = some (.int .i64 (n2 : Int)) := cell_of_row _ _ 0 _ _ _ hx6
          have HN6 : Hid (NB W6 (w.heap.size + 1) (l1.set n1 (a1 + 1))) := (by show NB _ _ _; rw [← hW6]; have h := HN5.out.set n1 (a1 + 1); push_cast at h; exact h)
          have HM6 : Hid (NB W6 w.heap.size l2) := (by show NB _ _ _; rw [← hW6]; exact (Below.heap_setCell _ _ _ _ (by show w.heap.size ≠ (w.heap.size + 1); omega)).trans HM5.out)
          have q2 : W6.cell? ⟨w.heap.size, n2, none⟩ = some (.int .i64 (a2 : Int)) := HM6.out.cell HA2.out
          have f2 : W6.frozen? ⟨w.heap.size, n2, none⟩ = false := HM6.out.free
          have HB6 : Hid (Below w.heap.size w W6) := (by show Below _ _ _; rw [← hW6]; exact (HBEL.out.trans (HB5.out.mono HBEL.out.size)).setCell (by show w.heap.size ≤ (w.heap.size + 1); omega) _)
          clear hb6 hx5 hx6 hy5
          go_wp2
          go_roundg (gk - 1)
          case measure => omega
          case rel =>
            refine ⟨k + 1, b6, by omega, by go_num, rfl, ?_, ?_, ?_, HB6.out⟩
            · rw [HMT.out, if_neg (by simp)]
              exact HB6E.out
            · rw [HU1.out]
              exact HN6.out
            · rw [HMT.out, if_neg (by simp), HL2.out]
              exact HM6.out
      · obtain rfl : k = l := by omega
        rw [show ts.take k = ts from List.take_of_length_le (by rw [HL.out]; exact Nat.le_refl _)] at HNB1 HNB2 HB6E
        rw [wt1_ref] at HNB1
        have hl1 : (w.heap.size + 1) < wr.heap.size := HNB1.out.lt
        have hl2 : w.heap.size < wr.heap.size := HNB2.out.lt
        cases b6 with
        | true =>
          have hnil : mts ts = [] := HB6E.out.1 rfl
          have hq0 : (incW (List.replicate 30 0) (mts ts))[0]? = some 0 := by rw [incW_at 30 _ (by decide), hnil]; rfl
          have q2 : wr.cell? ⟨w.heap.size, 0, none⟩ = some (.int .i64 ((0 : Nat) : Int)) := HNB2.out.cell hq0
          have f2 : wr.frozen? ⟨w.heap.size, 0, none⟩ = false := HNB2.out.free
          have HW2 : Hid (wt2 ts = (incW (List.replicate 30 0) (mts ts)).set 0 1) := by
            show _ = _
            rw [wt2, if_pos hnil, hnil]
            rfl
          clear hq0 hnil
          go_wp2
          refine bodyPost_ret (results_tmp2 rfl _ _ _) rfl ⟨HBEL.out.setCell (by show w.heap.size ≤ w.heap.size; omega) _, (w.heap.size + 1), w.heap.size, rfl, (Below.heap_setCell _ _ _ _ (by show (w.heap.size + 1) ≠ w.heap.size; omega)).trans HNB1.out, by rw [HW2.out]; exact HNB2.out.set 0 1, by omega, by omega⟩
        | false =>
          have HW2 : Hid (wt2 ts = incW (List.replicate 30 0) (mts ts)) := by
            show _ = _
            rw [wt2, if_neg (fun e => by have := HB6E.out.2 e; cases this)]
          go_wp2
          refine bodyPost_ret (results_tmp2 rfl _ _ _) rfl ⟨HBEL.out, (w.heap.size + 1), w.heap.size, rfl, HNB1.out, by rw [HW2.out]; exact HNB2.out, by omega, by omega⟩
end Go.Proofs.YtgbbdgoleiolhaaGreat
/- Layer 13: tokens that come in: those that may be, up to the first one that may not. -/
namespace Go.Proofs.YtgbbdgoleiolhaaGreat
open Go.RowKit BitsP SymP

def biC (t : UInt8 × Int × Int) : List Value := [.int .u8 (t.1.toNat : Int), .int .i64 t.2.1, .int .i64 t.2.2]
/-- The tokens ahead of the first one that may not be. -/
def ToksOf (w : World) (A : Option Addr) (l : Nat) (ts : List Tk) : Prop :=
  (∀ t ∈ ts, okT t) ∧ (∀ k t, ts[k]? = some t → TkAt w A k (t.1.toNat : Int) (t.2.1 : Int) (t.2.2 : Int)) ∧ (ts.length = l ∨ (ts.length < l ∧ ∃ y ln d, TkAt w A ts.length y ln d ∧ rightT y ln d = false))
theorem ToksOf.below {w W : World} {A : Option Addr} {l : Nat} {ts : List Tk} (h : ToksOf w A l ts) (hb : Below w.heap.size w W) : ToksOf W A l ts :=
  ⟨h.1, fun k t ht => (h.2.1 k t ht).below hb, h.2.2.imp id fun ⟨h1, y, ln, d, h2, h3⟩ => ⟨h1, y, ln, d, h2.below hb, h3⟩⟩
theorem tk_of {x : UInt8 × Int × Int} (h : rightT (x.1.toNat : Int) x.2.1 x.2.2 = true) : ∃ t : Tk, okT t ∧ x = (t.1, (t.2.1 : Int), (t.2.2 : Int)) := by
  obtain ⟨y, l, d⟩ := x
  unfold rightT at h
  dsimp only at h
  split at h
  · rename_i h0
    have h1 : d = 0 := of_decide_eq_true h
    subst h0 h1
    exact ⟨(y, 0, 0), .inl ⟨rfl, rfl⟩, rfl⟩
  · obtain ⟨h1, h2, h3, h4, h5⟩ := of_decide_eq_true h
    obtain ⟨n, rfl⟩ := Int.eq_ofNat_of_zero_le (show 0 ≤ l by omega)
    obtain ⟨m, rfl⟩ := Int.eq_ofNat_of_zero_le (show 0 ≤ d by omega)
    have hy : y = 0 := UInt8.toNat.inj (by show y.toNat = 0; omega)
    exact ⟨(y, n, m), .inr ⟨by show 3 ≤ n; omega, by show n ≤ 258; omega, by show 1 ≤ m; omega, by show m ≤ 32768; omega, hy⟩, rfl⟩
theorem toks_pre : ∀ L : List (UInt8 × Int × Int), ∃ ts : List Tk, (∀ t ∈ ts, okT t) ∧ (∀ (k : Nat) (t : Tk), ts[k]? = some t → L[k]? = some (t.1, (t.2.1 : Int), (t.2.2 : Int))) ∧
    (ts.length = L.length ∨ (ts.length < L.length ∧ ∃ x, L[ts.length]? = some x ∧ rightT (x.1.toNat : Int) x.2.1 x.2.2 = false))
  | [] => ⟨[], fun t ht => by simp at ht, fun k t ht => by simp at ht, .inl rfl⟩
  | x :: L => by
    cases h : rightT (x.1.toNat : Int) x.2.1 x.2.2 with
    | false => exact ⟨[], fun t ht => by simp at ht, fun k t ht => by simp at ht, .inr ⟨by simp, x, rfl, h⟩⟩
    | true =>
      obtain ⟨t, h1, h2⟩ := tk_of h
      obtain ⟨ts, a1, a2, a3⟩ := toks_pre L
      refine ⟨t :: ts, fun u hu => ?_, fun k u hu => ?_, ?_⟩
      · rcases List.mem_cons.1 hu with rfl | hu
        · exact h1
        · exact a1 u hu
      · cases k with
        | zero =>
          simp only [List.getElem?_cons_zero, Option.some.injEq] at hu ⊢
          rw [h2, hu]
        | succ k =>
          rw [List.getElem?_cons_succ] at hu ⊢
          exact a2 k u hu
      · rw [List.length_cons, List.length_cons]
        rcases a3 with a3 | ⟨a3, x2, a4, a5⟩
        · exact .inl (by omega)
        · exact .inr ⟨by omega, x2, by rw [List.getElem?_cons_succ]; exact a4, a5⟩
theorem tkAt_cells {w : World} {A : Option Addr} {L : List (UInt8 × Int × Int)} {k : Nat} {x : UInt8 × Int × Int} (hc : Cells w w.heap.size A (L.map biC).flatten) (h : L[k]? = some x) : TkAt w A k (x.1.toNat : Int) x.2.1 x.2.2 := by
  have hs : ∀ r ∈ L, (biC r).length = 3 := fun _ _ => rfl
  have c0 := code_at (code := biC) (s := 3) (j := 0) hs h rfl
  have c1 := code_at (code := biC) (s := 3) (j := 1) hs h rfl
  have c2 := code_at (code := biC) (s := 3) (j := 2) hs h rfl
  obtain ⟨b, o, h1, h2, h3⟩ := hc (by have := (List.getElem?_eq_some_iff.1 c0).1; omega)
  exact ⟨b, o, h1, h2, h3 _ _ c0, by have h4 := h3 _ _ c1; rw [← Nat.add_assoc] at h4; exact h4, by have h4 := h3 _ _ c2; rw [← Nat.add_assoc] at h4; exact h4⟩
theorem toksOf_cells {w : World} {A : Option Addr} {l : Nat} {L : List (UInt8 × Int × Int)} (hl : L.length = l) (hc : Cells w w.heap.size A (L.map biC).flatten) : ∃ ts, ToksOf w A l ts := by
  obtain ⟨ts, h1, h2, h3⟩ := toks_pre L
  refine ⟨ts, h1, fun k t ht => tkAt_cells hc (h2 k t ht), ?_⟩
  rw [hl] at h3
  exact h3.imp id fun ⟨h4, x, h5, h6⟩ => ⟨h4, _, _, _, tkAt_cells hc h5, h6⟩
theorem toks_lies {w : World} {a : Option Addr} {len cap : Nat} (h : Lies w (.slice (.cons (.int .u8) (.cons (.int .i64) (.cons (.int .i64) .nil)))) [.slice a len cap]) :
    (∃ ts, ToksOf w a len ts) ∧ len ≤ 9223372036854775807 := by
  obtain ⟨rs, h1, h2, _, _, h4⟩ := rows_as biC (fun _ => True) h (fun x _ hx => by
    obtain ⟨a1, r1, rfl, _, _, ⟨k, rfl, hk⟩, h1⟩ := hx
    obtain ⟨a2, r2, rfl, _, _, ⟨n, rfl, _⟩, h2⟩ := h1
    obtain ⟨a3, r3, rfl, _, _, ⟨d, rfl, _⟩, h3⟩ := h2
    have h3' : r3 = [] := h3
    subst h3'
    refine ⟨(UInt8.ofNat k.toNat, n, d), ?_, trivial⟩
    have := bounds_u8 hk
    have e : ((UInt8.ofNat k.toNat).toNat : Int) = k := by simp; omega
    show [Value.int .u8 k, Value.int .i64 n, Value.int .i64 d] = [Value.int .u8 ((UInt8.ofNat k.toNat).toNat : Int), Value.int .i64 n, Value.int .i64 d]
    rw [e])
  exact ⟨toksOf_cells h1 h4, h2⟩
section
variable {A : Option Addr} {l c : Nat} {ts : List Tk} {w : World}
theorem weights_yes (hm : l ≤ 65536) (h : ToksOf w A l ts) (hl : ts.length = l) :
    Calls Tryz.prog 22 #[.slice A l c] w fun e w' => Below w.heap.size w w' ∧ ∃ g1 g2, e = .returned (.tuple #[.slice (some ⟨g1, 0, none⟩) 273 273, .slice (some ⟨g2, 0, none⟩) 30 30, .bool true]) ∧ NB w' g1 (wt1 ts) ∧ NB w' g2 (wt2 ts) :=
  (weights_gen A l c ts w hm h.1 h.2.1 h.2.2).mono fun _ _ ⟨hb, h⟩ => ⟨hb, h.elim (fun ⟨h1, _⟩ => by omega) fun ⟨_, g1, g2, h1, h2, h3, _⟩ => ⟨g1, g2, h1, h2, h3⟩⟩
theorem weights_none (hm : l ≤ 65536) (h : ToksOf w A l ts) (hl : ts.length ≠ l) :
    Calls Tryz.prog 22 #[.slice A l c] w fun e w' => e = .returned (.tuple #[.slice none 0 0, .slice none 0 0, .bool false]) ∧ Below w.heap.size w w' :=
  (weights_gen A l c ts w hm h.1 h.2.1 h.2.2).mono fun _ _ ⟨hb, h⟩ => ⟨h.elim (fun ⟨_, h1⟩ => h1) fun ⟨h1, _⟩ => absurd h1 hl, hb⟩
end
end Go.Proofs.YtgbbdgoleiolhaaGreat
/- Layer 13, plainly: the tokens of bytes may be taken; with a byte less they may not; how many bits a block has. -/
namespace Go.Proofs.YtgbbdgoleiolhaaGreat
open BitsP SymP

theorem tokAt_kind (bs : List UInt8) (lv : Int) (p : Nat) : tokAt bs lv p = (bs.getD p 0, 0, 0) ∨
    ∃ n d : Nat, tokAt bs lv p = (0, n, d) ∧ 3 ≤ n ∧ n ≤ 258 ∧ 1 ≤ d ∧ d ≤ 32768 ∧ d ≤ p ∧ p + n ≤ bs.length := by
  unfold tokAt
  split
  · exact .inl rfl
  · rename_i h
    refine .inr ⟨_, _, rfl, ?_⟩
    rcases bestM_of bs (p : Int) (depthN lv) with h0 | ⟨hd, hn⟩
    · exact absurd (.inl (by rw [h0])) h
    · have h3 := lenI_three hd
      have hb := bestM_le bs (p : Int) (depthN lv)
      obtain ⟨_, hc1, hc2, hc3, hc4, _⟩ := cand_of hd
      rw [hn] at hb ⊢
      have hr := lenI_at bs (a := p) (d := (bestM bs (p : Int) (depthN lv)).2) (by omega) hc2 hc3 (by omega)
      rw [hr] at h3 hb ⊢
      have hle := runM_le bs p (bestM bs (p : Int) (depthN lv)).2 (capM bs p) 0
      have hcap : capM bs p ≤ bs.length - p := by unfold capM; omega
      exact ⟨h3, hb, hc2, hc3, by omega, by omega⟩
theorem tokAt_okT (bs : List UInt8) (lv : Int) (p : Nat) : okT (tokAt bs lv p) := by
  rcases tokAt_kind bs lv p with h | ⟨n, d, h, h1, h2, h3, h4, _⟩
  · rw [h]; exact .inl ⟨rfl, rfl⟩
  · rw [h]; exact .inr ⟨h1, h2, h3, h4, rfl⟩
theorem tokAt_fit {bs : List UInt8} {lv : Int} {p : Nat} (hp : p < bs.length) : p + max (tokAt bs lv p).2.1 1 ≤ bs.length ∧ (tokAt bs lv p).2.2 ≤ p := by
  rcases tokAt_kind bs lv p with h | ⟨n, d, h, h1, h2, h3, h4, h5, h6⟩
  · rw [h]; exact ⟨by simp; omega, Nat.zero_le _⟩
  · rw [h]; exact ⟨by show p + max n 1 ≤ _; omega, h5⟩
theorem toks_okT (bs : List UInt8) (lv : Int) : ∀ (k p : Nat), bs.length - p ≤ k → ∀ t ∈ toks bs lv p, okT t
  | 0, p, h => by rw [toks_end (by omega)]; intro t ht; cases ht
  | k + 1, p, h => by
    by_cases hp : p < bs.length
    · have h1 := tsz_pos (tokAt bs lv p)
      rw [toks_step hp]
      intro t ht
      rcases List.mem_cons.1 ht with rfl | ht
      · exact tokAt_okT _ _ _
      · exact toks_okT bs lv k _ (by omega) t ht
    · rw [toks_end (by omega)]; intro t ht; cases ht
theorem toks_good (bs : List UInt8) (lv : Int) : ∀ (k p : Nat), bs.length - p ≤ k → goodT (bs.length : Int) (toks bs lv p) p
  | 0, p, h => by rw [toks_end (by omega)]; trivial
  | k + 1, p, h => by
    by_cases hp : p < bs.length
    · have h1 := tsz_pos (tokAt bs lv p)
      obtain ⟨h2, h3⟩ := tokAt_fit (lv := lv) hp
      rw [toks_step hp]
      exact ⟨tokAt_okT _ _ _, h3, by omega, toks_good bs lv k _ (by omega)⟩
    · rw [toks_end (by omega)]; trivial
/-- Tokens that are too much somewhere. -/
def tooT (most : Int) : List Tk → Nat → Prop
  | [], _ => False
  | t :: ts, size => t.2.2 ≤ size ∧ (most < ((size + max t.2.1 1 : Nat) : Int) ∨ (((size + max t.2.1 1 : Nat) : Int) ≤ most ∧ tooT most ts (size + max t.2.1 1)))
theorem toks_too (bs : List UInt8) (lv : Int) : ∀ (k p : Nat), bs.length - p ≤ k → p < bs.length → tooT ((bs.length : Int) - 1) (toks bs lv p) p
  | 0, p, h, hp => by omega
  | k + 1, p, h, hp => by
    have h1 := tsz_pos (tokAt bs lv p)
    obtain ⟨h2, h3⟩ := tokAt_fit (lv := lv) hp
    rw [toks_step hp]
    refine ⟨h3, ?_⟩
    by_cases hl : p + max (tokAt bs lv p).2.1 1 = bs.length
    · exact .inl (by omega)
    · exact .inr ⟨by omega, toks_too bs lv k _ (by show bs.length - (p + max (tokAt bs lv p).2.1 1) ≤ k; omega) (by show p + max (tokAt bs lv p).2.1 1 < bs.length; omega)⟩
theorem blkL_too {F : List Int → List Bool → Int × Int × Nat} (hF : FunT F) {al : List Tk} {most : Int} {L R : List Bool} : ∀ (k : Nat) (pre ts : List Tk) (size p : Nat), al = pre ++ ts → ts.length < k → (∀ t ∈ ts, okT t) → tooT most ts size →
    L.drop p = toksB (zN (lensW (wt1 al))) (zN (lensW (wt2 al))) ts ++ (symB (zN (lensW (wt1 al))) 256 ++ R) →
    blkL F (zN (lensW (wt1 al))) (zN (lensW (wt2 al))) L most k pre size p = (5, [], 0)
  | 0, pre, ts, size, p, _, hk, _, _, _ => by omega
  | k + 1, pre, [], size, p, ha, _, _, hg, hd => hg.elim
  | k + 1, pre, t :: ts, size, p, ha, hk, hok, hg, hd => by
    have h1 := hok t List.mem_cons_self
    have hin : t ∈ al := by rw [ha]; simp
    obtain ⟨hdist, hg2⟩ := hg
    obtain ⟨hj, hiff, hne⟩ := joinR_back h1
    obtain ⟨x, hx, h0⟩ := wt1_has hin h1
    rw [tokB_parts, List.append_assoc] at hd
    have hc := clsF_back hF (by rw [wt1_len]; omega) (c := cls1 t) (zr := 257) hx h0 (wd1 h1) (cls1_lt h1).2.2 hd
    have hd2 := drop_more hd
    have hy : UInt8.ofNat t.1.toNat = t.1 := by simp
    have ih := fun p' hg' hd' => blkL_too hF (al := al) (most := most) (L := L) (R := R) k (pre ++ [t]) ts (size + max t.2.1 1) p' (by rw [ha]; simp) (by simp at hk; omega) (fun x hx => hok x (List.mem_cons_of_mem _ hx)) hg' hd'
    by_cases hm : isM t = true
    · have h256 := hiff.2 hm
      obtain ⟨x2, hx2, h02⟩ := wt2_has hin h1 hm
      rw [if_pos hm, List.append_assoc] at hd2
      have hc2 := clsF_back hF (by rw [wt2_len]; omega) (c := cls2 t) (zr := 0) hx2 h02 (wd2 h1 hm) (cls2_lt h1).2.2 hd2
      have hd3 := drop_more hd2
      rw [if_pos h256] at hj
      rw [blkL, hc]
      dsimp only
      rw [if_neg (by simp), if_neg hne, hc2]
      dsimp only
      rw [if_neg (by simp), if_pos h256, if_pos h256, hj]
      dsimp only
      rw [if_neg (by omega)]
      rcases hg2 with hg2 | ⟨hg2, hg3⟩
      · rw [if_pos (by omega)]
      · rw [if_neg (by omega), hy, ih _ hg3 hd3]
    · have h256 : ¬ 256 < (cls1 t).1 := fun h => hm (hiff.1 h)
      rw [if_neg hm, List.nil_append] at hd2
      rw [if_neg h256] at hj
      rw [blkL, hc]
      dsimp only
      rw [if_neg (by simp), if_neg hne, if_neg (fun h => h256 h.1), if_neg h256, if_neg h256, hj, Nat.add_zero]
      dsimp only
      rw [if_neg (by omega)]
      rcases hg2 with hg2 | ⟨hg2, hg3⟩
      · rw [if_pos (by omega)]
      · rw [if_neg (by omega), hy, ih _ hg3 hd2]
theorem blkF_too {F : List Int → List Bool → Int × Int × Nat} (hF : FunT F) {ts : List Tk} (hok : ∀ t ∈ ts, okT t) {most : Int} (hg : tooT most ts 0) {L R : List Bool} {p : Nat} (hd : L.drop p = blkB ts ++ R) : blkF F L p most = (5, [], 0) := by
  have hl1 : (lensW (wt1 ts)).length = 273 := by rw [lensW_len, wt1_len]
  have hl2 : (lensW (wt2 ts)).length = 30 := by rw [lensW_len, wt2_len]
  have hr1 : caR (zN (lensW (wt1 ts))) = true := by
    obtain ⟨x, hx, h0⟩ := wt1_end ts
    exact lensW_caR (by rw [wt1_len]; omega) hx h0
  have hr2 : caR (zN (lensW (wt2 ts))) = true := by
    obtain ⟨s, x, hx, h0⟩ := wt2_some ts hok
    exact lensW_caR (by rw [wt2_len]; omega) hx h0
  have hB : blkB ts = tabP (lensW (wt1 ts)) ++ (tabP (lensW (wt2 ts)) ++ (toksB (zN (lensW (wt1 ts))) (zN (lensW (wt2 ts))) ts ++ symB (zN (lensW (wt1 ts))) 256)) := by unfold blkB; simp only [List.append_assoc]
  rw [hB] at hd
  simp only [List.append_assoc] at hd
  have ht1 := tkF_back hF (by rw [hl1]; omega) (by rw [hl1]; omega) (lensW_le (by rw [wt1_len]; omega)) hd
  have hd2 := drop_more hd
  have ht2 := tkF_back hF (by rw [hl2]; omega) (by rw [hl2]; omega) (lensW_le (by rw [wt2_len]; omega)) hd2
  have hd3 := drop_more hd2
  have hge := toksB_ge (al := ts) ts (fun t ht => ⟨ht, hok t ht⟩)
  have hlen := congrArg List.length hd3
  rw [List.length_drop, List.length_append, List.length_append] at hlen
  have hs1 : 1 ≤ (symB (zN (lensW (wt1 ts))) 256).length := by
    obtain ⟨x, hx, h0⟩ := wt1_end ts
    obtain ⟨n, v, k, hy, _, hs, _, _⟩ := lensW_sym (by rw [wt1_len]; omega) hx h0
    have h2 : symB (zN (lensW (wt1 ts))) 256 = codeB v n := hs
    rw [h2, codeB_len]
    exact hy.one
  have hbl := blkL_too hF (al := ts) (most := most) (L := L) (R := R) (L.length + 1 - (p + (tabP (lensW (wt1 ts))).length + (tabP (lensW (wt2 ts))).length)) [] ts 0 (p + (tabP (lensW (wt1 ts))).length + (tabP (lensW (wt2 ts))).length) rfl (by omega) hok hg hd3
  have hz1 : ((lensW (wt1 ts)).map fun n : Nat => (n : Int)) = zN (lensW (wt1 ts)) := rfl
  have hz2 : ((lensW (wt2 ts)).map fun n : Nat => (n : Int)) = zN (lensW (wt2 ts)) := rfl
  unfold blkF
  rw [ht1]
  dsimp only
  rw [if_neg (by simp), ht2]
  dsimp only
  rw [if_neg (by simp), hl1, hl2, if_neg (by omega), hz1, hz2, if_neg (by rw [hr1, hr2]; simp), hbl]
theorem tab_few {ws : List Nat} (hws : ws.length ≤ 320) (hex : ∃ s x : Nat, ws[s]? = some x ∧ 0 < x) : (tabP (lensW ws)).length ≤ 100000 := by
  obtain ⟨s, x, hx, h0⟩ := hex
  have hv := lensW_le hws
  obtain ⟨t, ht⟩ := partsP_ne (ls := lensW ws) (by rw [lensW_len]; have := (List.getElem?_eq_some_iff.1 hx).1; omega)
  have h2 := partsB_len (lnP_right ht (partsP_all hv t ht)) (partsP (lensW ws) 0)
  have h3 := parts_few (lensW ws)
  rw [lensW_len] at h3
  rw [tabP, List.length_append, List.length_append, bitsOf_length, lensB_len, lnP_len]
  omega
theorem blkB_few {ts : List Tk} (hok : ∀ t ∈ ts, okT t) : (blkB ts).length ≤ 200015 + 56 * ts.length := by
  have h1 := tab_few (ws := wt1 ts) (by rw [wt1_len]; omega) (by obtain ⟨x, h1, h2⟩ := wt1_end ts; exact ⟨256, x, h1, h2⟩)
  have h2 := tab_few (ws := wt2 ts) (by rw [wt2_len]; omega) (wt2_some ts hok)
  have hr1 : caR (zN (lensW (wt1 ts))) = true := by
    obtain ⟨x, hx, h0⟩ := wt1_end ts
    exact lensW_caR (by rw [wt1_len]; omega) hx h0
  have hr2 : caR (zN (lensW (wt2 ts))) = true := by
    obtain ⟨s, x, hx, h0⟩ := wt2_some ts hok
    exact lensW_caR (by rw [wt2_len]; omega) hx h0
  have h3 := toksB_len hr1 hr2 hok
  have h4 := symB_len hr1 256
  rw [blkB, List.length_append, List.length_append, List.length_append]
  omega
end Go.Proofs.YtgbbdgoleiolhaaGreat
/- Layer 13: a class is taken. -/
namespace Go.Proofs.YtgbbdgoleiolhaaGreat
open Go.RowKit BitsP SymP

theorem takeR_one {zs : List Int} {m : Nat} {U : List Bool} {s e : Int} {on : Nat} (h : TakeR zs m U s e on) (he : e = 0) : 1 ≤ on := by
  rcases h with ⟨t, v, k, hy, _, _, _, _⟩ | ⟨_, _, _, he2⟩
  · exact hy.one
  · rw [he2] at he
    split at he <;> cases he
set_option maxRecDepth 100000 in
set_option maxHeartbeats 1000000 in
theorem tkclass_any (F : List Int → List Bool → Int × Int × Nat) (hF : FunT F) (g r base zr : Nat) (zs : List Int) (S : Nat → Prop) (bs : List UInt8) (p : Nat) (w : World) (hr : caR zs = true) (hz0 : zr ≤ 1000) (h : LC w g zs) (hrd : RdS w r base S bs p) (hbl : bs.length ≤ 1000000) :
    Calls Tryz.prog 60 #[.pointer (some ⟨r, 0, none⟩), .agg #[.pointer (some ⟨g, 0, none⟩), .int .i64 (zr : Int)]] w
      fun e w' => ∃ p', e = .returned (.tuple #[.agg #[.int .i64 ((clsF F zs zr (unpack bs) p).2.1.1 : Nat), .int .i64 ((clsF F zs zr (unpack bs) p).2.1.2.1 : Nat), .int .u32 ((clsF F zs zr (unpack bs) p).2.1.2.2 : Nat)], .int .i64 (clsF F zs zr (unpack bs) p).1]) ∧ RdS w' r base S bs p' ∧ ((clsF F zs zr (unpack bs) p).1 = 0 → p' = p + (clsF F zs zr (unpack bs) p).2.2 ∧ 1 ≤ (clsF F zs zr (unpack bs) p).2.2 ∧ (clsF F zs zr (unpack bs) p).2.1.1 < zs.length ∧ (clsF F zs zr (unpack bs) p).2.1.2.1 ≤ 13 ∧ (clsF F zs zr (unpack bs) p).2.1.2.2 < 8192) ∧ Mod (oneB r) w w' := by
  obtain ⟨hrl0, hp8, _⟩ := rd_low hrd
  have hb0 : Below w.heap.size w (w.alloc (.cells #[.pointer (some ⟨g, 0, none⟩), .int .i64 (zr : Int)] 78)) := (Below.refl w.heap.size w).alloc (Nat.le_refl _) _
  have hb1 := hb0.alloc (o := .cells #[.int .i64 0, .int .i64 0, .int .u32 0] 59) (by simp)
  obtain ⟨W1, hW1⟩ : ∃ W1, (w.alloc (.cells #[.pointer (some ⟨g, 0, none⟩), .int .i64 (zr : Int)] 78)).alloc (.cells #[.int .i64 0, .int .i64 0, .int .u32 0] 59) = W1 := ⟨_, rfl⟩
  rw [hW1] at hb1
  have HX1 : Hid (W1.heap[w.heap.size]? = some (.cells #[.pointer (some ⟨g, 0, none⟩), .int .i64 (zr : Int)] 78 (0, 0))) := by show _ = _; rw [← hW1]; exact row3_alloc (heap_alloc_new w _) _
  have HY1 : Hid (W1.heap[w.heap.size + 1]? = some (.cells #[.int .i64 0, .int .i64 0, .int .u32 0] 59 (0, 0))) := by show _ = _; rw [← hW1]; have h := heap_alloc_new (w.alloc (.cells #[.pointer (some ⟨g, 0, none⟩), .int .i64 (zr : Int)] 78)) (.cells #[.int .i64 0, .int .i64 0, .int .u32 0] 59); rw [World.size_alloc] at h; exact h
  have c0 : W1.cell? ⟨w.heap.size, 0, none⟩ = some (.pointer (some ⟨g, 0, none⟩)) := cell_of_row _ _ 0 _ _ _ HX1.out
  have HT := Lib.hid (take8_any g r base zs S bs p W1 hr (h.below hb1) (hrd.keep (Mod.of_below hb1) (fun _ _ h => h)) hbl)
  have HM : Hid (Mod (oneB r) w W1) := (Mod.of_below hb1).mono (fun _ h => h.elim)
  have HRL : Hid (r < w.heap.size) := hrl0
  have HTK : Hid (∀ (W : World) (p b : Nat), RdS W r base S bs p → b ≤ 100 → _) := fun W p b hW h1 => rtake_any r base S bs p (b : Int) W hW (by omega) (by omega) (by omega)
  have HSL : Hid (∀ k, S k → k < w.heap.size) := hrd.lt
  clear h hrd hb0 hb1 hrl0
  obtain ⟨L, hL⟩ : ∃ L, unpack bs = L := ⟨_, rfl⟩
  have hLl : L.length = 8 * bs.length := by rw [← hL, unpack_length]
  have HLL := Lib.hid hLl
  have HLE := Lib.hid hL
  rw [hL] at HT ⊢
  clear hL hLl
  have HST : Hid (∀ W : World, Mod (oneB r) w W → ∀ v u x, Mod (oneB r) w (((W.setCell ⟨w.heap.size + 1, 0, none⟩ v).setCell ⟨w.heap.size + 1, 1, none⟩ u).setCell ⟨w.heap.size + 1, 2, none⟩ x)) := fun W hW v u x => ((hW.set _ _ (.inr (Nat.le_succ _))).set _ _ (.inr (Nat.le_succ _))).set _ _ (.inr (Nat.le_succ _))
  have HSR : Hid (∀ (W : World) (q : Nat), RdS W r base S bs q → ∀ v u x, RdS (((W.setCell ⟨w.heap.size + 1, 0, none⟩ v).setCell ⟨w.heap.size + 1, 1, none⟩ u).setCell ⟨w.heap.size + 1, 2, none⟩ x) r base S bs q) := fun W q hW v u x => hW.keep (T := oneB (w.heap.size + 1)) ((((Mod.refl (oneB (w.heap.size + 1)) W).set ⟨w.heap.size + 1, 0, none⟩ v (.inl rfl)).set ⟨w.heap.size + 1, 1, none⟩ u (.inl rfl)).set ⟨w.heap.size + 1, 2, none⟩ x (.inl rfl)) (fun k hk h => by have h2 : k = w.heap.size + 1 := h; have := HSL.out k hk; omega)
  go_enter Tryz.func60, Tryz.ntmps60
  go_wp2_with fail
  refine HT.out.mono ?_
  rintro e w2 ⟨m, on, s, er, rfl, hmx, htk, hrd, hmod⟩
  have hx2 := hmod.keep HX1.out (fun h => by have h2 : w.heap.size = r := h; have := HRL.out; omega)
  have hy2 := hmod.keep HY1.out (fun h => by have h2 : w.heap.size + 1 = r := h; have := HRL.out; omega)
  have HK := Lib.hid (kindsT hF hmx htk)
  have HONE : Hid (er = 0 → 1 ≤ on) := fun h => takeR_one htk h
  have HM2 := Lib.hid (HM.out.then_ hmod)
  have HRD := Lib.hid hrd
  have HY2 := Lib.hid hy2
  have d1 : w2.cell? ⟨w.heap.size, 1, none⟩ = some (.int .i64 (zr : Int)) := cell_of_row _ _ 1 _ _ _ hx2
  have b0 : w2.cell? ⟨w.heap.size + 1, 0, none⟩ = some (.int .i64 0) := cell_of_row _ _ 0 _ _ _ hy2
  have b1 : w2.cell? ⟨w.heap.size + 1, 1, none⟩ = some (.int .i64 0) := cell_of_row _ _ 1 _ _ _ hy2
  have b2 : w2.cell? ⟨w.heap.size + 1, 2, none⟩ = some (.int .u32 0) := cell_of_row _ _ 2 _ _ _ hy2
  have f0 : w2.frozen? ⟨w.heap.size + 1, 0, none⟩ = false := frozen_of_row _ _ 0 _ _ hy2
  have f1 : w2.frozen? ⟨w.heap.size + 1, 1, none⟩ = false := frozen_of_row _ _ 1 _ _ hy2
  have f2 : w2.frozen? ⟨w.heap.size + 1, 2, none⟩ = false := frozen_of_row _ _ 2 _ _ hy2
  clear hmx htk hrd hmod hx2 hy2
  rcases HK.out with ⟨rfl, t, rfl, htl, hon, hf⟩ | ⟨hne, rfl, hf⟩
  · have HF := Lib.hid hf
    have hz := (caR_len hr).1
    have hUl : (L.drop p).length = 8 * bs.length - p := by rw [List.length_drop, HLL.out]
    rw [hUl] at hon
    obtain ⟨sb, hsb⟩ : ∃ sb, wdF zr t = sb := ⟨_, rfl⟩
    have hsb13 : sb ≤ 13 := by rw [← hsb]; exact wdF_le zr t
    have HSB := Lib.hid hsb
    have HBA : Hid (∀ W : World, ∃ v ok, Calls Tryz.prog 94 #[.int .i64 ((t : Int) - (zr : Int))] W fun e w' => e = .returned (.tuple #[.int .i64 v, .int .i64 (sb : Int), .bool ok]) ∧ W = w') := fun W => by
      by_cases h30 : zr ≤ t ∧ t - zr < 30
      · have h := base_in (t - zr) W h30.2
        have e1 : ((t - zr : Nat) : Int) = (t : Int) - (zr : Int) := by omega
        have e2 : bitsC (t - zr) = sb := by rw [← HSB.out, wdF, if_pos h30]
        rw [e1, e2] at h
        exact ⟨_, _, h⟩
      · have h := base_out ((t : Int) - (zr : Int)) W (by omega)
        have e2 : sb = 0 := by rw [← HSB.out, wdF, if_neg h30]
        rw [e2]
        exact ⟨_, _, h⟩
    have hwr : IntKind.i64.wrap ((t : Int) - (zr : Int)) = (t : Int) - (zr : Int) := IntWalk.i64_in _ (by omega)
    obtain ⟨bv, bok, hba⟩ := HBA.out w2
    have HBA2 := Lib.hid hba
    have HTK2 := Lib.hid (HTK.out w2 (p + on) sb HRD.out (by omega))
    rw [cnt_nat (by omega)] at HTK2
    clear HK HTK hf hsb HBA hba
    by_cases hfit : p + on + sb ≤ 8 * bs.length
    · obtain ⟨y, hy⟩ : ∃ y, numA L (p + on) sb = y := ⟨_, rfl⟩
      have hyb : y < 8192 := by
        have h1 := numA_lt L (p + on) sb
        have h2 : 2 ^ sb ≤ 2 ^ 13 := Nat.pow_le_pow_right (by decide) hsb13
        omega
      have HP : Hid (clsF F zs zr L p = (0, (t, sb, y), on + sb)) := by
        show _ = _
        unfold clsF
        rw [HF.out]
        dsimp only
        rw [if_neg (by simp), Int.toNat_natCast, HSB.out, if_neg (by rw [HLL.out]; omega), hy]
      have hty : takes bs (p + on) sb = y := by rw [numA_takes hfit, HLE.out, hy]
      rw [(fits_yes hfit).1, (fits_yes hfit).2, hty] at HTK2
      have HA := Lib.hid (show p + on + sb = p + (on + sb) by omega)
      clear hfit hy hty
      go_wp2_with (first
        | (go_at_call 94; refine HBA2.out.mono ?_; rintro e w' ⟨rfl, rfl⟩)
        | (go_at_call 89; refine HTK2.out.mono ?_; rintro e w3 ⟨rfl, hrd3, hm3⟩; have hy3 := hm3.keep HY2.out (fun h => by have h2 : w.heap.size + 1 = r := h; have := HRL.out; omega); have HR3 := Lib.hid hrd3; have HM3 := Lib.hid (HM2.out.then_ hm3); have b0' : w3.cell? ⟨w.heap.size + 1, 0, none⟩ = some (.int .i64 0) := cell_of_row _ _ 0 _ _ _ hy3; have b1' : w3.cell? ⟨w.heap.size + 1, 1, none⟩ = some (.int .i64 0) := cell_of_row _ _ 1 _ _ _ hy3; have b2' : w3.cell? ⟨w.heap.size + 1, 2, none⟩ = some (.int .u32 0) := cell_of_row _ _ 2 _ _ _ hy3; have f0' : w3.frozen? ⟨w.heap.size + 1, 0, none⟩ = false := frozen_of_row _ _ 0 _ _ hy3; have f1' : w3.frozen? ⟨w.heap.size + 1, 1, none⟩ = false := frozen_of_row _ _ 1 _ _ hy3; have f2' : w3.frozen? ⟨w.heap.size + 1, 2, none⟩ = false := frozen_of_row _ _ 2 _ _ hy3; clear hrd3 hm3 hy3))
      refine bodyPost_ret (v := .tuple #[.agg #[.int .i64 (t : Int), .int .i64 (sb : Int), .int .u32 (y : Int)], .int .i64 0]) ?_ rfl ⟨p + (on + sb), by rw [HP.out], ?_, fun _ => by rw [HP.out]; exact ⟨rfl, Nat.le_trans (HONE.out trivial) (Nat.le_add_right _ _), htl, hsb13, hyb⟩, ?_⟩
      · rw [results_cell_tmp rfl]
        go_simp
        try rfl
      · rw [← HA.out]
        exact HSR.out _ _ HR3.out _ _ _
      · exact HST.out _ HM3.out _ _ _
    · have HP : Hid (clsF F zs zr L p = (2, (0, 0, 0), 0)) := by
        show _ = _
        unfold clsF
        rw [HF.out]
        dsimp only
        rw [if_neg (by simp), Int.toNat_natCast, HSB.out, if_pos (by rw [HLL.out]; omega)]
      rw [(fits_no hfit).1, (fits_no hfit).2] at HTK2
      clear hfit
      go_wp2_with (first
        | (go_at_call 94; refine HBA2.out.mono ?_; rintro e w' ⟨rfl, rfl⟩)
        | (go_at_call 89; refine HTK2.out.mono ?_; rintro e w3 ⟨rfl, hrd3, hm3⟩; have hy3 := hm3.keep HY2.out (fun h => by have h2 : w.heap.size + 1 = r := h; have := HRL.out; omega); have HR3 := Lib.hid hrd3; have HM3 := Lib.hid (HM2.out.then_ hm3); have b0' : w3.cell? ⟨w.heap.size + 1, 0, none⟩ = some (.int .i64 0) := cell_of_row _ _ 0 _ _ _ hy3; have b1' : w3.cell? ⟨w.heap.size + 1, 1, none⟩ = some (.int .i64 0) := cell_of_row _ _ 1 _ _ _ hy3; have b2' : w3.cell? ⟨w.heap.size + 1, 2, none⟩ = some (.int .u32 0) := cell_of_row _ _ 2 _ _ _ hy3; have f0' : w3.frozen? ⟨w.heap.size + 1, 0, none⟩ = false := frozen_of_row _ _ 0 _ _ hy3; have f1' : w3.frozen? ⟨w.heap.size + 1, 1, none⟩ = false := frozen_of_row _ _ 1 _ _ hy3; have f2' : w3.frozen? ⟨w.heap.size + 1, 2, none⟩ = false := frozen_of_row _ _ 2 _ _ hy3; clear hrd3 hm3 hy3))
      refine bodyPost_ret (v := .tuple #[.agg #[.int .i64 0, .int .i64 0, .int .u32 0], .int .i64 2]) ?_ rfl ⟨_, by rw [HP.out]; rfl, HSR.out _ _ HR3.out _ _ _, fun h => (by rw [HP.out] at h; cases h), HST.out _ HM3.out _ _ _⟩
      rw [results_cell_tmp rfl]
      go_simp
      try rfl
  · have HP : Hid (clsF F zs zr L p = (er, (0, 0, 0), 0)) := by
      show _ = _
      unfold clsF
      rw [hf]
      exact if_pos hne
    have t1 : (er != 0) = true := by simpa using hne
    have HNE := Lib.hid hne
    clear HK hf hne
    go_wp2
    refine bodyPost_ret (v := .tuple #[.agg #[.int .i64 0, .int .i64 0, .int .u32 0], .int .i64 er]) ?_ rfl ⟨_, by rw [HP.out]; rfl, HSR.out _ _ HRD.out _ _ _, fun h => absurd (by rw [HP.out] at h; exact h) HNE.out, HST.out _ HM2.out _ _ _⟩
    rw [results_cell_tmp rfl]
    go_simp
    try rfl
end Go.Proofs.YtgbbdgoleiolhaaGreat
