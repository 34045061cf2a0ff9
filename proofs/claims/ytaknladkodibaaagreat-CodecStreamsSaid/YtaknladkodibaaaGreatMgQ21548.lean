/- Layer 9: a table is taken. -/
import Derived.Test.YtaknladkodibaaaGreatMgQ21547
import Derived.Test.YtaknladkodibaaaGreatMgQ21546
import Derived.Test.YtaknladkodibaaaGreatMgQ21529
import Derived.Deep.RegionWith
namespace Go.Proofs.YtaknladkodibaaaGreat
open Go.RowKit BitsP

theorem LCa.keep2 {w w' : World} {n g : Nat} {zs : List Int} {S : Nat → Prop} (h : LCa w n g zs) (hm : Mod S w w') (hS : ∀ k, S k → k < n ∨ g < k) : LCa w' n g zs := by
  obtain ⟨A1, A2, A3, c1, c2, c3, m, hcb, hmx, h1, h2, h3, hg, ha⟩ := h
  have hgl := cb_lt hcb
  have key : ∀ {A : Option Addr} {xs : List Value}, (∀ a, A = some a → n ≤ a.block) → Cells w g A xs → Cells w' g A xs := fun hA hc hp => by
    obtain ⟨b, o, e, hb, hcc⟩ := hc hp
    have hnb := hA _ e
    exact ⟨b, o, e, hb, fun j u hj => (World.cell?_of_block (a := ⟨b, o + j, none⟩) (hm.block b (by omega) (fun hs => by have := hS b hs; dsimp only at hnb; omega))).trans (hcc j u hj)⟩
  exact ⟨A1, A2, A3, c1, c2, c3, m, hm.keep hcb (fun hs => by have := hS g hs; omega), hmx, key (fun a e => ha a (.inl e)) h1, key (fun a e => ha a (.inr (.inl e))) h2, key (fun a e => ha a (.inr (.inr e))) h3, hg, ha⟩
section
variable {w W W' : World} {r base B p p' g : Nat} {S : Nat → Prop} {bs : List UInt8} {zs : List Int} {v v' : Value} {ls ls' : List Nat}
end
end Go.Proofs.YtaknladkodibaaaGreat
/- Layer 13: how often symbols are there. -/
namespace Go.Proofs.YtaknladkodibaaaGreat
open Go.RowKit BitsP SymP

/-- A token's symbols, of the program. -/
theorem splitT_any (t : Tk) (w : World) (h : okT t) :
    Calls Tryz.prog 28 #[.agg #[.int .u8 (t.1.toNat : Int), .int .i64 (t.2.1 : Int), .int .i64 (t.2.2 : Int)]] w fun e w' => e = .returned (.tuple #[agR ((cls1 t).1 : Nat) ((cls1 t).2.1 : Nat) ((cls1 t).2.2 : Nat) ((cls2 t).1 : Nat) ((cls2 t).2.1 : Nat) ((cls2 t).2.2 : Nat) (isM t), .bool true]) ∧ Below w.heap.size w w' := by
  obtain ⟨y, l, d⟩ := t
  rcases h with ⟨h1, h2⟩ | ⟨h1, h2, h3, h4, h5⟩
  · dsimp only at h1 h2
    subst h1 h2
    have e1 : cls1 (y, 0, 0) = (y.toNat, 0, 0) := by unfold cls1; rw [if_pos rfl]
    have e2 : cls2 (y, 0, 0) = (0, 0, 0) := by unfold cls2; rw [if_pos rfl]
    have e3 : isM (y, 0, 0) = false := by unfold isM; simp
    rw [e1, e2, e3]
    exact split_byte y.toNat w y.toNat_lt
  · dsimp only at h1 h2 h3 h4 h5
    subst h5
    obtain ⟨l', rfl⟩ : ∃ l', l = l' + 3 := ⟨l - 3, by omega⟩
    obtain ⟨d', rfl⟩ : ∃ d', d = d' + 1 := ⟨d - 1, by omega⟩
    have e1 : cls1 (0, l' + 3, d' + 1) = (classC l' + 257, bitsC (classC l'), l' % 2 ^ bitsC (classC l')) := by unfold cls1; rw [if_neg (by dsimp only; omega)]; rfl
    have e2 : cls2 (0, l' + 3, d' + 1) = (classC d', bitsC (classC d'), d' % 2 ^ bitsC (classC d')) := by unfold cls2; rw [if_neg (by dsimp only; omega)]; rfl
    have e3 : isM (0, l' + 3, d' + 1) = true := by unfold isM; simp
    rw [e1, e2, e3]
    exact split_match l' d' w (by omega) (by omega)
/-- Tokens in memory, and what stands behind them. -/
def TkAt (w : World) (A : Option Addr) (k : Nat) (y l d : Int) : Prop := ∃ b o, A = some ⟨b, o, none⟩ ∧ b < w.heap.size ∧ w.cell? ⟨b, o + k * 3, none⟩ = some (.int .u8 y) ∧ w.cell? ⟨b, o + k * 3 + 1, none⟩ = some (.int .i64 l) ∧ w.cell? ⟨b, o + k * 3 + 2, none⟩ = some (.int .i64 d)
theorem TkAt.below {w W : World} {A : Option Addr} {k : Nat} {y l d : Int} (h : TkAt w A k y l d) (hb : Below w.heap.size w W) : TkAt W A k y l d := by
  obtain ⟨b, o, h1, h2, h3, h4, h5⟩ := h
  exact ⟨b, o, h1, Nat.lt_of_lt_of_le h2 hb.size, (hb.cell (p := ⟨b, o + k * 3, none⟩) h2).trans h3, (hb.cell (p := ⟨b, o + k * 3 + 1, none⟩) h2).trans h4, (hb.cell (p := ⟨b, o + k * 3 + 2, none⟩) h2).trans h5⟩
set_option maxRecDepth 100000 in
set_option maxHeartbeats 4000000 in
theorem weights_gen (A : Option Addr) (l c : Nat) (ts : List Tk) (w : World) (hm : l ≤ 65536) (hk : ∀ t ∈ ts, okT t) (hc : ∀ k t, ts[k]? = some t → TkAt w A k (t.1.toNat : Int) (t.2.1 : Int) (t.2.2 : Int)) (hend : ts.length = l ∨ (ts.length < l ∧ ∃ y ln d, TkAt w A ts.length y ln d ∧ rightT y ln d = false)) :
    Calls Tryz.prog 26 #[.slice A l c] w fun e w' => Below w.heap.size w w' ∧ ((ts.length < l ∧ e = .returned (.tuple #[.slice none 0 0, .slice none 0 0, .bool false])) ∨
      (ts.length = l ∧ ∃ g1 g2, e = .returned (.tuple #[.slice (some ⟨g1, 0, none⟩) 273 273, .slice (some ⟨g2, 0, none⟩) 30 30, .bool true]) ∧ NB w' g1 (wt1 ts) ∧ NB w' g2 (wt2 ts) ∧ w.heap.size ≤ g1 ∧ w.heap.size ≤ g2)) := by
  obtain ⟨n, hn⟩ : ∃ n, ts.length = n := ⟨_, rfl⟩
  have HN := Lib.hid hn
  have HK := Lib.hid hk
  have HC := Lib.hid hc
  rw [hn] at hend ⊢
  have HEND := Lib.hid hend
  have hnl : n ≤ l := by rcases hend with h | ⟨h, _⟩ <;> omega
  have mk1 : ∀ W, (Instr.makeSlice 56 (.int .i64 273) (.int .i64 273)).run Tryz.prog W = .ok (.slice (some ⟨W.heap.size, 0, none⟩) 273 273) (W.alloc (.cells (madeCells #[.int .i64 0] 273) 3)) := fun W => make_ints 273 (by omega) W
  have mk2 : ∀ W, (Instr.makeSlice 56 (.int .i64 30) (.int .i64 30)).run Tryz.prog W = .ok (.slice (some ⟨W.heap.size, 0, none⟩) 30 30) (W.alloc (.cells (madeCells #[.int .i64 0] 30) 3)) := fun W => make_ints 30 (by omega) W
  clear hk hc hend hn
  go_enter Tryz.func26, Tryz.ntmps26
  go_upto_region 3 with fail
  go_region
  · have HZ1 : Hid (NB (((w.alloc (.cells (madeCells #[.int .i64 0] 273) 3)).alloc (.cells (madeCells #[.int .i64 0] 30) 3)).drew) w.heap.size (incW (List.replicate 273 0) (fsts (ts.take 0)))) := ((wei_made w 273).below (B := (w.alloc (.cells (madeCells #[.int .i64 0] 273) 3)).heap.size) (((Below.refl _ _).alloc (Nat.le_refl _) _).drew) (by simp))
    have HZ2 : Hid (NB (((w.alloc (.cells (madeCells #[.int .i64 0] 273) 3)).alloc (.cells (madeCells #[.int .i64 0] 30) 3)).drew) (w.heap.size + 1) (incW (List.replicate 30 0) (mts (ts.take 0)))) := (by have h := wei_made (w.alloc (.cells (madeCells #[.int .i64 0] 273) 3)) 30; rw [World.size_alloc] at h; exact h)
    have HB0 : Hid (Below w.heap.size w (((w.alloc (.cells (madeCells #[.int .i64 0] 273) 3)).alloc (.cells (madeCells #[.int .i64 0] 30) 3)).drew)) := (((Below.refl w.heap.size w).alloc (Nat.le_refl _) _).alloc (by simp) _).drew
    obtain ⟨W0, hW0⟩ : ∃ W0, ((w.alloc (.cells (madeCells #[.int .i64 0] 273) 3)).alloc (.cells (madeCells #[.int .i64 0] 30) 3)).drew = W0 := ⟨_, rfl⟩
    rw [hW0] at HZ1 HZ2 HB0 ⊢
    clear hW0 mk1 mk2
    go_wp2
    go_loopg [2, 3, 5, 17] l (fun gk s2 s3 m5 i wr => s2 = .slice (some ⟨w.heap.size, 0, none⟩) 273 273 ∧ s3 = .slice (some ⟨(w.heap.size + 1), 0, none⟩) 30 30 ∧ ∃ k : Nat, k + gk = l ∧ i = .int .i64 (k : Int) ∧ k ≤ n ∧ m5 = .int .i64 ((mts (ts.take k)).length : Nat) ∧ NB wr w.heap.size (incW (List.replicate 273 0) (fsts (ts.take k))) ∧ NB wr (w.heap.size + 1) (incW (List.replicate 30 0) (mts (ts.take k))) ∧ Below w.heap.size w wr)
    case atStart => exact ⟨rfl, rfl, 0, by omega, rfl, Nat.zero_le _, rfl, HZ1.out, HZ2.out, HB0.out⟩
    case round =>
      obtain ⟨rfl, rfl, k, hkg, rfl, hkn, rfl, hn1, hn2, hbel⟩ := hrel
      have HNB1 := Lib.hid hn1
      have HNB2 := Lib.hid hn2
      have HBEL := Lib.hid hbel
      clear hn1 hn2 hbel HZ1 HZ2 HB0
      have hml := mts_len (ts.take k)
      rw [List.length_take] at hml
      obtain ⟨mc, hmc⟩ : ∃ mc, (mts (ts.take k)).length = mc := ⟨_, rfl⟩
      have HMC := Lib.hid hmc
      rw [hmc] at hml ⊢
      clear hmc
      by_cases hkl : k < n
      · obtain ⟨t, ht⟩ : ∃ t, ts[k]? = some t := ⟨_, List.getElem?_eq_getElem (by rw [HN.out]; exact hkl)⟩
        have hok := HK.out t (List.mem_of_getElem? ht)
        have HSP := Lib.hid (fun W => splitT_any t W hok)
        have hc1 := cls1_lt hok
        have hc2 := cls2_lt hok
        have HTK : Hid (ts.take (k + 1) = ts.take k ++ [t]) := by show _ = _; rw [List.take_add_one, ht]; rfl
        have HF : Hid (fsts (ts.take (k + 1)) = fsts (ts.take k) ++ [(cls1 t).1]) := by show _ = _; rw [HTK.out, fsts_snoc]
        have HMT : Hid (mts (ts.take (k + 1)) = if isM t then mts (ts.take k) ++ [(cls2 t).1] else mts (ts.take k)) := by show _ = _; rw [HTK.out, mts_snoc]
        obtain ⟨b, o, rfl, hbB, v0, v1, v2⟩ := (HC.out k t ht).below HBEL.out
        have k1 : l ≤ 65536 := hm
        have HA1 : Hid ((incW (List.replicate 273 0) (fsts (ts.take k)))[(cls1 t).1]? = some ((fsts (ts.take k)).count (cls1 t).1)) := incW_at 273 _ hc1.1
        have HA2 : Hid ((incW (List.replicate 30 0) (mts (ts.take k)))[(cls2 t).1]? = some ((mts (ts.take k)).count (cls2 t).1)) := incW_at 30 _ hc2.1
        have HU1 : Hid (incW (List.replicate 273 0) (fsts (ts.take (k + 1))) = (incW (List.replicate 273 0) (fsts (ts.take k))).set (cls1 t).1 ((fsts (ts.take k)).count (cls1 t).1 + 1)) := by
          show _ = _
          rw [HF.out, incW_append, incW_cons, List.getD, HA1.out]
          rfl
        have HU2 : Hid (incW (List.replicate 30 0) (mts (ts.take k) ++ [(cls2 t).1]) = (incW (List.replicate 30 0) (mts (ts.take k))).set (cls2 t).1 ((mts (ts.take k)).count (cls2 t).1 + 1)) := by
          show _ = _
          rw [incW_append, incW_cons, List.getD, HA2.out]
          rfl
        have hcn1 : (fsts (ts.take k)).count (cls1 t).1 ≤ 65536 := by
          have h := List.count_le_length (a := (cls1 t).1) (l := fsts (ts.take k))
          rw [fsts_len, List.length_take] at h
          omega
        have hcn2 : (mts (ts.take k)).count (cls2 t).1 ≤ 65536 := by
          have h := List.count_le_length (a := (cls2 t).1) (l := mts (ts.take k))
          rw [HMC.out] at h
          omega
        obtain ⟨l1, hl1⟩ : ∃ l1, incW (List.replicate 273 0) (fsts (ts.take k)) = l1 := ⟨_, rfl⟩
        obtain ⟨l2, hl2⟩ : ∃ l2, incW (List.replicate 30 0) (mts (ts.take k)) = l2 := ⟨_, rfl⟩
        have HL2 := Lib.hid hl2
        rw [hl1] at HNB1 HA1 HU1
        rw [hl2] at HNB2 HA2 HU2
        obtain ⟨a1, ha1⟩ : ∃ a1, (fsts (ts.take k)).count (cls1 t).1 = a1 := ⟨_, rfl⟩
        obtain ⟨a2, ha2⟩ : ∃ a2, (mts (ts.take k)).count (cls2 t).1 = a2 := ⟨_, rfl⟩
        rw [ha1] at HA1 HU1 hcn1
        rw [ha2] at HA2 HU2 hcn2
        obtain ⟨⟨n1, b1, x1⟩, hq1⟩ : ∃ q, cls1 t = q := ⟨_, rfl⟩
        obtain ⟨⟨n2, b2, x2⟩, hq2⟩ : ∃ q, cls2 t = q := ⟨_, rfl⟩
        rw [hq1] at HSP HA1 HU1 hc1
        rw [hq2] at HSP HA2 HU2 hc2 HMT
        obtain ⟨m, hmm⟩ : ∃ m, isM t = m := ⟨_, rfl⟩
        rw [hmm] at HSP HMT
        dsimp only at HSP HA1 HU1 HA2 HU2 HMT hc1 hc2
        have hn273 := hc1.1
        have hn30 := hc2.1
        clear ht hok hl1 hl2 ha1 ha2 hq1 hq2 hmm hc1 hc2
        cases m with
        | true =>
          go_upto_region 9 with (go_at_call 28; refine (HSP.out _).mono ?_; rintro e w4 ⟨rfl, hb4⟩; unfold agR; have hb5 := ((Below.refl wr.heap.size wr).alloc (Nat.le_refl _) (.cells #[.int .u8 (t.1.toNat : Int), .int .i64 (t.2.1 : Int), .int .i64 (t.2.2 : Int)] 62)).trans (hb4.mono (by simp)); obtain ⟨W5, hW5⟩ : ∃ W5, w4.alloc (.cells #[.int .i64 (n1 : Int), .int .i64 (b1 : Int), .int .u32 (x1 : Int), .int .i64 (n2 : Int), .int .i64 (b2 : Int), .int .u32 (x2 : Int), .bool true] 66) = W5 := ⟨_, rfl⟩; have hb6 : Below wr.heap.size wr W5 := (by rw [← hW5]; exact hb5.alloc hb5.size _); have hx5 : W5.heap[w4.heap.size]? = some (.cells #[.int .i64 (n1 : Int), .int .i64 (b1 : Int), .int .u32 (x1 : Int), .int .i64 (n2 : Int), .int .i64 (b2 : Int), .int .u32 (x2 : Int), .bool true] 66 (0, 0)) := (by rw [← hW5]; exact heap_alloc_new w4 _); have hs4 : wr.heap.size ≤ w4.heap.size := hb5.size; have HW5 := Lib.hid hW5; clear hW5 hb4 hb5)
          rw [HW5.out]
          have HB5 := Lib.hid hb6
          have HN5 := Lib.hid (HNB1.out.below hb6 HNB1.out.lt)
          have HM5 := Lib.hid (HNB2.out.below hb6 HNB2.out.lt)
          have r0 : W5.cell? ⟨w4.heap.size, 0, none⟩ = some (.int .i64 (n1 : Int)) := cell_of_row _ _ 0 _ _ _ hx5
          have q1 : W5.cell? ⟨w.heap.size, n1, none⟩ = some (.int .i64 (a1 : Int)) := HN5.out.cell HA1.out
          have f1 : W5.frozen? ⟨w.heap.size, n1, none⟩ = false := HN5.out.free
          obtain ⟨W6, hW6⟩ : ∃ W6, W5.setCell ⟨w.heap.size, n1, none⟩ (.int .i64 ((a1 : Int) + 1)) = W6 := ⟨_, rfl⟩
          have hl1 : w.heap.size < wr.heap.size := HNB1.out.lt
          have hl2 : (w.heap.size + 1) < wr.heap.size := HNB2.out.lt
          have hx6 : W6.heap[w4.heap.size]? = some (.cells #[.int .i64 (n1 : Int), .int .i64 (b1 : Int), .int .u32 (x1 : Int), .int .i64 (n2 : Int), .int .i64 (b2 : Int), .int .u32 (x2 : Int), .bool true] 66 (0, 0)) := (by rw [← hW6]; exact (Below.heap_setCell _ _ _ _ (by show w4.heap.size ≠ w.heap.size; omega)).trans hx5)
          have r3 : W6.cell? ⟨w4.heap.size, 3, none⟩ = some (.int .i64 (n2 : Int)) := cell_of_row _ _ 3 _ _ _ hx6
          have r6 : W6.cell? ⟨w4.heap.size, 6, none⟩ = some (.bool true) := cell_of_row _ _ 6 _ _ _ hx6
          have HN6 : Hid (NB W6 w.heap.size (l1.set n1 (a1 + 1))) := (by show NB _ _ _; rw [← hW6]; have h := HN5.out.set n1 (a1 + 1); push_cast at h; exact h)
          have HM6 : Hid (NB W6 (w.heap.size + 1) l2) := (by show NB _ _ _; rw [← hW6]; exact (Below.heap_setCell _ _ _ _ (by show (w.heap.size + 1) ≠ w.heap.size; omega)).trans HM5.out)
          have q2 : W6.cell? ⟨(w.heap.size + 1), n2, none⟩ = some (.int .i64 (a2 : Int)) := HM6.out.cell HA2.out
          have f2 : W6.frozen? ⟨(w.heap.size + 1), n2, none⟩ = false := HM6.out.free
          have HB6 : Hid (Below w.heap.size w W6) := (by show Below _ _ _; rw [← hW6]; exact (HBEL.out.trans (HB5.out.mono HBEL.out.size)).setCell (by show w.heap.size ≤ w.heap.size; omega) _)
          clear hb6 hx5 hx6
          go_wp2
          go_roundg (gk - 1)
          case measure => omega
          case rel =>
            refine ⟨rfl, rfl, k + 1, by omega, by go_num, by omega, ?_, ?_, ?_, HB6.out.setCell (by show w.heap.size ≤ (w.heap.size + 1); omega) _⟩
            · rw [HMT.out, if_pos trivial, List.length_append, HMC.out, List.length_singleton]
              go_num
            · rw [HU1.out]
              exact (Below.heap_setCell _ _ _ _ (by show w.heap.size ≠ (w.heap.size + 1); omega)).trans HN6.out
            · rw [HMT.out, if_pos trivial, HU2.out]
              have h := HM6.out.set n2 (a2 + 1)
              push_cast at h
              exact h
        | false =>
          go_upto_region 9 with (go_at_call 28; refine (HSP.out _).mono ?_; rintro e w4 ⟨rfl, hb4⟩; unfold agR; have hb5 := ((Below.refl wr.heap.size wr).alloc (Nat.le_refl _) (.cells #[.int .u8 (t.1.toNat : Int), .int .i64 (t.2.1 : Int), .int .i64 (t.2.2 : Int)] 62)).trans (hb4.mono (by simp)); obtain ⟨W5, hW5⟩ : ∃ W5, w4.alloc (.cells #[.int .i64 (n1 : Int), .int .i64 (b1 : Int), .int .u32 (x1 : Int), .int .i64 (n2 : Int), .int .i64 (b2 : Int), .int .u32 (x2 : Int), .bool false] 66) = W5 := ⟨_, rfl⟩; have hb6 : Below wr.heap.size wr W5 := (by rw [← hW5]; exact hb5.alloc hb5.size _); have hx5 : W5.heap[w4.heap.size]? = some (.cells #[.int .i64 (n1 : Int), .int .i64 (b1 : Int), .int .u32 (x1 : Int), .int .i64 (n2 : Int), .int .i64 (b2 : Int), .int .u32 (x2 : Int), .bool false] 66 (0, 0)) := (by rw [← hW5]; exact heap_alloc_new w4 _); have hs4 : wr.heap.size ≤ w4.heap.size := hb5.size; have HW5 := Lib.hid hW5; clear hW5 hb4 hb5)
          rw [HW5.out]
          have HB5 := Lib.hid hb6
          have HN5 := Lib.hid (HNB1.out.below hb6 HNB1.out.lt)
          have HM5 := Lib.hid (HNB2.out.below hb6 HNB2.out.lt)
          have r0 : W5.cell? ⟨w4.heap.size, 0, none⟩ = some (.int .i64 (n1 : Int)) := cell_of_row _ _ 0 _ _ _ hx5
          have q1 : W5.cell? ⟨w.heap.size, n1, none⟩ = some (.int .i64 (a1 : Int)) := HN5.out.cell HA1.out
          have f1 : W5.frozen? ⟨w.heap.size, n1, none⟩ = false := HN5.out.free
          obtain ⟨W6, hW6⟩ : ∃ W6, W5.setCell ⟨w.heap.size, n1, none⟩ (.int .i64 ((a1 : Int) + 1)) = W6 := ⟨_, rfl⟩
          have hl1 : w.heap.size < wr.heap.size := HNB1.out.lt
          have hl2 : (w.heap.size + 1) < wr.heap.size := HNB2.out.lt
          have hx6 : W6.heap[w4.heap.size]? = some (.cells #[.int .i64 (n1 : Int), .int .i64 (b1 : Int), .int .u32 (x1 : Int), .int .i64 (n2 : Int), .int .i64 (b2 : Int), .int .u32 (x2 : Int), .bool false] 66 (0, 0)) := (by rw [← hW6]; exact (Below.heap_setCell _ _ _ _ (by show w4.heap.size ≠ w.heap.size; omega)).trans hx5)
          have r3 : W6.cell? ⟨w4.heap.size, 3, none⟩ = some (.int .i64 (n2 : Int)) := cell_of_row _ _ 3 _ _ _ hx6
          have r6 : W6.cell? ⟨w4.heap.size, 6, none⟩ = some (.bool false) := cell_of_row _ _ 6 _ _ _ hx6
          have HN6 : Hid (NB W6 w.heap.size (l1.set n1 (a1 + 1))) := (by show NB _ _ _; rw [← hW6]; have h := HN5.out.set n1 (a1 + 1); push_cast at h; exact h)
          have HM6 : Hid (NB W6 (w.heap.size + 1) l2) := (by show NB _ _ _; rw [← hW6]; exact (Below.heap_setCell _ _ _ _ (by show (w.heap.size + 1) ≠ w.heap.size; omega)).trans HM5.out)
          have q2 : W6.cell? ⟨(w.heap.size + 1), n2, none⟩ = some (.int .i64 (a2 : Int)) := HM6.out.cell HA2.out
          have f2 : W6.frozen? ⟨(w.heap.size + 1), n2, none⟩ = false := HM6.out.free
          have HB6 : Hid (Below w.heap.size w W6) := (by show Below _ _ _; rw [← hW6]; exact (HBEL.out.trans (HB5.out.mono HBEL.out.size)).setCell (by show w.heap.size ≤ w.heap.size; omega) _)
          clear hb6 hx5 hx6
          go_wp2
          go_roundg (gk - 1)
          case measure => omega
          case rel =>
            refine ⟨rfl, rfl, k + 1, by omega, by go_num, by omega, ?_, ?_, ?_, HB6.out⟩
            · rw [HMT.out, if_neg (by simp), HMC.out]
            · rw [HU1.out]
              exact HN6.out
            · rw [HMT.out, if_neg (by simp), HL2.out]
              exact HM6.out
      · obtain rfl : k = n := by omega
        rw [show ts.take k = ts from List.take_of_length_le (by rw [HN.out]; exact Nat.le_refl _)] at HNB1 HNB2 HMC
        by_cases hlast : k < l
        · obtain ⟨y, ln, d, hta, hrt⟩ : ∃ y ln d, TkAt w A k y ln d ∧ rightT y ln d = false := by
            rcases HEND.out with h | ⟨_, h⟩
            · omega
            · exact h
          obtain ⟨b, o, rfl, hbB, v0, v1, v2⟩ := hta.below HBEL.out
          have HSP := Lib.hid (fun W => split_no y ln d W hrt)
          clear hta hrt
          go_wp2_with (go_at_call 28; refine (HSP.out _).mono ?_; rintro e w4 ⟨rfl, hb4⟩; unfold agR; have hb5 := ((Below.refl wr.heap.size wr).alloc (Nat.le_refl _) (.cells #[.int .u8 y, .int .i64 ln, .int .i64 d] 62)).trans (hb4.mono (by simp)); have HB5 := Lib.hid (HBEL.out.trans (hb5.mono HBEL.out.size)); clear hb4 hb5)
          refine bodyPost_ret (results_tmp3 rfl _ _ _) rfl ⟨HB5.out.alloc HB5.out.size _, .inl ⟨hlast, rfl⟩⟩
        · obtain rfl : k = l := by omega
          have hq256 : (incW (List.replicate 273 0) (fsts ts))[256]? = some ((fsts ts).count 256) := incW_at 273 _ (by decide)
          have HW1 : Hid (wt1 ts = (incW (List.replicate 273 0) (fsts ts)).set 256 ((fsts ts).count 256 + 1)) := by
            show _ = _
            rw [wt1, incW_append, incW_cons, List.getD, hq256]
            rfl
          have hcn1 : (fsts ts).count 256 ≤ 65536 := by
            have h := List.count_le_length (a := 256) (l := fsts ts)
            rw [fsts_len, HN.out] at h
            omega
          obtain ⟨l1, hl1⟩ : ∃ l1, incW (List.replicate 273 0) (fsts ts) = l1 := ⟨_, rfl⟩
          obtain ⟨a1, ha1⟩ : ∃ a1, (fsts ts).count 256 = a1 := ⟨_, rfl⟩
          rw [hl1] at HNB1 hq256 HW1
          rw [ha1] at hq256 HW1 hcn1
          have q1 : wr.cell? ⟨w.heap.size, 256, none⟩ = some (.int .i64 (a1 : Int)) := HNB1.out.cell hq256
          have f1 : wr.frozen? ⟨w.heap.size, 256, none⟩ = false := HNB1.out.free
          obtain ⟨W6, hW6⟩ : ∃ W6, wr.setCell ⟨w.heap.size, 256, none⟩ (.int .i64 ((a1 : Int) + 1)) = W6 := ⟨_, rfl⟩
          have HN6 : Hid (NB W6 w.heap.size (wt1 ts)) := by
            show NB _ _ _
            rw [← hW6, HW1.out]
            have h := HNB1.out.set 256 (a1 + 1)
            push_cast at h
            exact h
          have HM6 : Hid (NB W6 (w.heap.size + 1) (incW (List.replicate 30 0) (mts ts))) := by
            show NB _ _ _
            rw [← hW6]
            exact (Below.heap_setCell _ _ _ _ (by show (w.heap.size + 1) ≠ w.heap.size; omega)).trans HNB2.out
          have HB6 : Hid (Below w.heap.size w W6) := by
            show Below _ _ _
            rw [← hW6]
            exact HBEL.out.setCell (by show w.heap.size ≤ w.heap.size; omega) _
          clear hl1 ha1 hq256
          by_cases hm0 : mc = 0
          · subst hm0
            have hnil : mts ts = [] := List.eq_nil_of_length_eq_zero HMC.out
            have hq0 : (incW (List.replicate 30 0) (mts ts))[0]? = some 0 := by rw [incW_at 30 _ (by decide), hnil]; rfl
            have q2 : W6.cell? ⟨(w.heap.size + 1), 0, none⟩ = some (.int .i64 ((0 : Nat) : Int)) := HM6.out.cell hq0
            have f2 : W6.frozen? ⟨(w.heap.size + 1), 0, none⟩ = false := HM6.out.free
            have HW2 : Hid (wt2 ts = (incW (List.replicate 30 0) (mts ts)).set 0 1) := by
              show _ = _
              rw [wt2, if_pos hnil, hnil]
              rfl
            clear hq0 hnil
            go_wp2
            refine bodyPost_ret (results_tmp3 rfl _ _ _) rfl ⟨HB6.out.setCell (by show w.heap.size ≤ (w.heap.size + 1); omega) _, w.heap.size, (w.heap.size + 1), rfl, (Below.heap_setCell _ _ _ _ (by show w.heap.size ≠ (w.heap.size + 1); omega)).trans HN6.out, by rw [HW2.out]; exact HM6.out.set 0 1, by omega, by omega⟩
          · have t0 : ((mc : Int) == 0) = false := by simp; omega
            have HW2 : Hid (wt2 ts = incW (List.replicate 30 0) (mts ts)) := by
              show _ = _
              rw [wt2, if_neg (fun e => hm0 (by rw [← HMC.out, e]; rfl))]
            clear hm0
            go_wp2
            refine bodyPost_ret (results_tmp3 rfl _ _ _) rfl ⟨HB6.out, w.heap.size, (w.heap.size + 1), rfl, HN6.out, by rw [HW2.out]; exact HM6.out, by omega, by omega⟩
  · have HZ1 : Hid (NB (((w.alloc (.cells (madeCells #[.int .i64 0] 30) 3)).alloc (.cells (madeCells #[.int .i64 0] 273) 3)).drew) (w.heap.size + 1) (incW (List.replicate 273 0) (fsts (ts.take 0)))) := (by have h := wei_made (w.alloc (.cells (madeCells #[.int .i64 0] 30) 3)) 273; rw [World.size_alloc] at h; exact h)
    have HZ2 : Hid (NB (((w.alloc (.cells (madeCells #[.int .i64 0] 30) 3)).alloc (.cells (madeCells #[.int .i64 0] 273) 3)).drew) w.heap.size (incW (List.replicate 30 0) (mts (ts.take 0)))) := ((wei_made w 30).below (B := (w.alloc (.cells (madeCells #[.int .i64 0] 30) 3)).heap.size) (((Below.refl _ _).alloc (Nat.le_refl _) _).drew) (by simp))
    have HB0 : Hid (Below w.heap.size w (((w.alloc (.cells (madeCells #[.int .i64 0] 30) 3)).alloc (.cells (madeCells #[.int .i64 0] 273) 3)).drew)) := (((Below.refl w.heap.size w).alloc (Nat.le_refl _) _).alloc (by simp) _).drew
    obtain ⟨W0, hW0⟩ : ∃ W0, ((w.alloc (.cells (madeCells #[.int .i64 0] 30) 3)).alloc (.cells (madeCells #[.int .i64 0] 273) 3)).drew = W0 := ⟨_, rfl⟩
    rw [hW0] at HZ1 HZ2 HB0 ⊢
    clear hW0 mk1 mk2
    go_wp2
    go_loopg [2, 3, 5, 17] l (fun gk s2 s3 m5 i wr => s2 = .slice (some ⟨(w.heap.size + 1), 0, none⟩) 273 273 ∧ s3 = .slice (some ⟨w.heap.size, 0, none⟩) 30 30 ∧ ∃ k : Nat, k + gk = l ∧ i = .int .i64 (k : Int) ∧ k ≤ n ∧ m5 = .int .i64 ((mts (ts.take k)).length : Nat) ∧ NB wr (w.heap.size + 1) (incW (List.replicate 273 0) (fsts (ts.take k))) ∧ NB wr w.heap.size (incW (List.replicate 30 0) (mts (ts.take k))) ∧ Below w.heap.size w wr)
    case atStart => exact ⟨rfl, rfl, 0, by omega, rfl, Nat.zero_le _, rfl, HZ1.out, HZ2.out, HB0.out⟩
    case round =>
      obtain ⟨rfl, rfl, k, hkg, rfl, hkn, rfl, hn1, hn2, hbel⟩ := hrel
      have HNB1 := Lib.hid hn1
      have HNB2 := Lib.hid hn2
      have HBEL := Lib.hid hbel
      clear hn1 hn2 hbel HZ1 HZ2 HB0
      have hml := mts_len (ts.take k)
      rw [List.length_take] at hml
      obtain ⟨mc, hmc⟩ : ∃ mc, (mts (ts.take k)).length = mc := ⟨_, rfl⟩
      have HMC := Lib.hid hmc
      rw [hmc] at hml ⊢
      clear hmc
      by_cases hkl : k < n
      · obtain ⟨t, ht⟩ : ∃ t, ts[k]? = some t := ⟨_, List.getElem?_eq_getElem (by rw [HN.out]; exact hkl)⟩
        have hok := HK.out t (List.mem_of_getElem? ht)
        have HSP := Lib.hid (fun W => splitT_any t W hok)
        have hc1 := cls1_lt hok
        have hc2 := cls2_lt hok
        have HTK : Hid (ts.take (k + 1) = ts.take k ++ [t]) := by show _ = _; rw [List.take_add_one, ht]; rfl
        have HF : Hid (fsts (ts.take (k + 1)) = fsts (ts.take k) ++ [(cls1 t).1]) := by show _ = _; rw [HTK.out, fsts_snoc]
        have HMT : Hid (mts (ts.take (k + 1)) = if isM t then mts (ts.take k) ++ [(cls2 t).1] else mts (ts.take k)) := by show _ = _; rw [HTK.out, mts_snoc]
        obtain ⟨b, o, rfl, hbB, v0, v1, v2⟩ := (HC.out k t ht).below HBEL.out
        have k1 : l ≤ 65536 := hm
        have HA1 : Hid ((incW (List.replicate 273 0) (fsts (ts.take k)))[(cls1 t).1]? = some ((fsts (ts.take k)).count (cls1 t).1)) := incW_at 273 _ hc1.1
        have HA2 : Hid ((incW (List.replicate 30 0) (mts (ts.take k)))[(cls2 t).1]? = some ((mts (ts.take k)).count (cls2 t).1)) := incW_at 30 _ hc2.1
        have HU1 : Hid (incW (List.replicate 273 0) (fsts (ts.take (k + 1))) = (incW (List.replicate 273 0) (fsts (ts.take k))).set (cls1 t).1 ((fsts (ts.take k)).count (cls1 t).1 + 1)) := by
          show _ = _
          rw [HF.out, incW_append, incW_cons, List.getD, HA1.out]
          rfl
        have HU2 : Hid (incW (List.replicate 30 0) (mts (ts.take k) ++ [(cls2 t).1]) = (incW (List.replicate 30 0) (mts (ts.take k))).set (cls2 t).1 ((mts (ts.take k)).count (cls2 t).1 + 1)) := by
          show _ = _
          rw [incW_append, incW_cons, List.getD, HA2.out]
          rfl
        have hcn1 : (fsts (ts.take k)).count (cls1 t).1 ≤ 65536 := by
          have h := List.count_le_length (a := (cls1 t).1) (l := fsts (ts.take k))
          rw [fsts_len, List.length_take] at h
          omega
        have hcn2 : (mts (ts.take k)).count (cls2 t).1 ≤ 65536 := by
          have h := List.count_le_length (a := (cls2 t).1) (l := mts (ts.take k))
          rw [HMC.out] at h
          omega
        obtain ⟨l1, hl1⟩ : ∃ l1, incW (List.replicate 273 0) (fsts (ts.take k)) = l1 := ⟨_, rfl⟩
        obtain ⟨l2, hl2⟩ : ∃ l2, incW (List.replicate 30 0) (mts (ts.take k)) = l2 := ⟨_, rfl⟩
        have HL2 := Lib.hid hl2
        rw [hl1] at HNB1 HA1 HU1
        rw [hl2] at HNB2 HA2 HU2
        obtain ⟨a1, ha1⟩ : ∃ a1, (fsts (ts.take k)).count (cls1 t).1 = a1 := ⟨_, rfl⟩
        obtain ⟨a2, ha2⟩ : ∃ a2, (mts (ts.take k)).count (cls2 t).1 = a2 := ⟨_, rfl⟩
        rw [ha1] at HA1 HU1 hcn1
        rw [ha2] at HA2 HU2 hcn2
        obtain ⟨⟨n1, b1, x1⟩, hq1⟩ : ∃ q, cls1 t = q := ⟨_, rfl⟩
        obtain ⟨⟨n2, b2, x2⟩, hq2⟩ : ∃ q, cls2 t = q := ⟨_, rfl⟩
        rw [hq1] at HSP HA1 HU1 hc1
        rw [hq2] at HSP HA2 HU2 hc2 HMT
        obtain ⟨m, hmm⟩ : ∃ m, isM t = m := ⟨_, rfl⟩
        rw [hmm] at HSP HMT
        dsimp only at HSP HA1 HU1 HA2 HU2 HMT hc1 hc2
        have hn273 := hc1.1
        have hn30 := hc2.1
        clear ht hok hl1 hl2 ha1 ha2 hq1 hq2 hmm hc1 hc2
        cases m with
        | true =>
          go_upto_region 9 with (go_at_call 28; refine (HSP.out _).mono ?_; rintro e w4 ⟨rfl, hb4⟩; unfold agR; have hb5 := ((Below.refl wr.heap.size wr).alloc (Nat.le_refl _) (.cells #[.int .u8 (t.1.toNat : Int), .int .i64 (t.2.1 : Int), .int .i64 (t.2.2 : Int)] 62)).trans (hb4.mono (by simp)); obtain ⟨W5, hW5⟩ : ∃ W5, w4.alloc (.cells #[.int .i64 (n1 : Int), .int .i64 (b1 : Int), .int .u32 (x1 : Int), .int .i64 (n2 : Int), .int .i64 (b2 : Int), .int .u32 (x2 : Int), .bool true] 66) = W5 := ⟨_, rfl⟩; have hb6 : Below wr.heap.size wr W5 := (by rw [← hW5]; exact hb5.alloc hb5.size _); have hx5 : W5.heap[w4.heap.size]? = some (.cells #[.int .i64 (n1 : Int), .int .i64 (b1 : Int), .int .u32 (x1 : Int), .int .i64 (n2 : Int), .int .i64 (b2 : Int), .int .u32 (x2 : Int), .bool true] 66 (0, 0)) := (by rw [← hW5]; exact heap_alloc_new w4 _); have hs4 : wr.heap.size ≤ w4.heap.size := hb5.size; have HW5 := Lib.hid hW5; clear hW5 hb4 hb5)
          rw [HW5.out]
          have HB5 := Lib.hid hb6
          have HN5 := Lib.hid (HNB1.out.below hb6 HNB1.out.lt)
          have HM5 := Lib.hid (HNB2.out.below hb6 HNB2.out.lt)
          have r0 : W5.cell? ⟨w4.heap.size, 0, none⟩ = some (.int .i64 (n1 : Int)) := cell_of_row _ _ 0 _ _ _ hx5
          have q1 : W5.cell? ⟨(w.heap.size + 1), n1, none⟩ = some (.int .i64 (a1 : Int)) := HN5.out.cell HA1.out
          have f1 : W5.frozen? ⟨(w.heap.size + 1), n1, none⟩ = false := HN5.out.free
          obtain ⟨W6, hW6⟩ : ∃ W6, W5.setCell ⟨(w.heap.size + 1), n1, none⟩ (.int .i64 ((a1 : Int) + 1)) = W6 := ⟨_, rfl⟩
          have hl1 : (w.heap.size + 1) < wr.heap.size := HNB1.out.lt
          have hl2 : w.heap.size < wr.heap.size := HNB2.out.lt
          have hx6 : W6.heap[w4.heap.size]? = some (.cells #[.int .i64 (n1 : Int), .int .i64 (b1 : Int), .int .u32 (x1 : Int), .int .i64 (n2 : Int), .int .i64 (b2 : Int), .int .u32 (x2 : Int), .bool true] 66 (0, 0)) := (by rw [← hW6]; exact (Below.heap_setCell _ _ _ _ (by show w4.heap.size ≠ (w.heap.size + 1); omega)).trans hx5)
          have r3 : W6.cell? ⟨w4.heap.size, 3, none⟩ = some (.int .i64 (n2 : Int)) := cell_of_row _ _ 3 _ _ _ hx6
          have r6 : W6.cell? ⟨w4.heap.size, 6, none⟩ = some (.bool true) := cell_of_row _ _ 6 _ _ _ hx6
          have HN6 : Hid (NB W6 (w.heap.size + 1) (l1.set n1 (a1 + 1))) := (by show NB _ _ _; rw [← hW6]; have h := HN5.out.set n1 (a1 + 1); push_cast at h; exact h)
          have HM6 : Hid (NB W6 w.heap.size l2) := (by show NB _ _ _; rw [← hW6]; exact (Below.heap_setCell _ _ _ _ (by show w.heap.size ≠ (w.heap.size + 1); omega)).trans HM5.out)
          have q2 : W6.cell? ⟨w.heap.size, n2, none⟩ = some (.int .i64 (a2 : Int)) := HM6.out.cell HA2.out
          have f2 : W6.frozen? ⟨w.heap.size, n2, none⟩ = false := HM6.out.free
          have HB6 : Hid (Below w.heap.size w W6) := (by show Below _ _ _; rw [← hW6]; exact (HBEL.out.trans (HB5.out.mono HBEL.out.size)).setCell (by show w.heap.size ≤ (w.heap.size + 1); omega) _)
          clear hb6 hx5 hx6
          go_wp2
          go_roundg (gk - 1)
          case measure => omega
          case rel =>
            refine ⟨rfl, rfl, k + 1, by omega, by go_num, by omega, ?_, ?_, ?_, HB6.out.setCell (by show w.heap.size ≤ w.heap.size; omega) _⟩
            · rw [HMT.out, if_pos trivial, List.length_append, HMC.out, List.length_singleton]
              go_num
            · rw [HU1.out]
              exact (Below.heap_setCell _ _ _ _ (by show (w.heap.size + 1) ≠ w.heap.size; omega)).trans HN6.out
            · rw [HMT.out, if_pos trivial, HU2.out]
              have h := HM6.out.set n2 (a2 + 1)
              push_cast at h
              exact h
        | false =>
          go_upto_region 9 with (go_at_call 28; refine (HSP.out _).mono ?_; rintro e w4 ⟨rfl, hb4⟩; unfold agR; have hb5 := ((Below.refl wr.heap.size wr).alloc (Nat.le_refl _) (.cells #[.int .u8 (t.1.toNat : Int), .int .i64 (t.2.1 : Int), .int .i64 (t.2.2 : Int)] 62)).trans (hb4.mono (by simp)); obtain ⟨W5, hW5⟩ : ∃ W5, w4.alloc (.cells #[.int .i64 (n1 : Int), .int .i64 (b1 : Int), .int .u32 (x1 : Int), .int .i64 (n2 : Int), .int .i64 (b2 : Int), .int .u32 (x2 : Int), .bool false] 66) = W5 := ⟨_, rfl⟩; have hb6 : Below wr.heap.size wr W5 := (by rw [← hW5]; exact hb5.alloc hb5.size _); have hx5 : W5.heap[w4.heap.size]? = some (.cells #[.int .i64 (n1 : Int), .int .i64 (b1 : Int), .int .u32 (x1 : Int), .int .i64 (n2 : Int), .int .i64 (b2 : Int), .int .u32 (x2 : Int), .bool false] 66 (0, 0)) := (by rw [← hW5]; exact heap_alloc_new w4 _); have hs4 : wr.heap.size ≤ w4.heap.size := hb5.size; have HW5 := Lib.hid hW5; clear hW5 hb4 hb5)
          rw [HW5.out]
          have HB5 := Lib.hid hb6
          have HN5 := Lib.hid (HNB1.out.below hb6 HNB1.out.lt)
          have HM5 := Lib.hid (HNB2.out.below hb6 HNB2.out.lt)
          have r0 : W5.cell? ⟨w4.heap.size, 0, none⟩ = some (.int .i64 (n1 : Int)) := cell_of_row _ _ 0 _ _ _ hx5
          have q1 : W5.cell? ⟨(w.heap.size + 1), n1, none⟩ = some (.int .i64 (a1 : Int)) := HN5.out.cell HA1.out
          have f1 : W5.frozen? ⟨(w.heap.size + 1), n1, none⟩ = false := HN5.out.free
          obtain ⟨W6, hW6⟩ : ∃ W6, W5.setCell ⟨(w.heap.size + 1), n1, none⟩ (.int .i64 ((a1 : Int) + 1)) = W6 := ⟨_, rfl⟩
          have hl1 : (w.heap.size + 1) < wr.heap.size := HNB1.out.lt
          have hl2 : w.heap.size < wr.heap.size := HNB2.out.lt
          have hx6 : W6.heap[w4.heap.size]? = some (.cells #[.int .i64 (n1 : Int), .int .i64 (b1 : Int), .int .u32 (x1 : Int), .int .i64 (n2 : Int), .int .i64 (b2 : Int), .int .u32 (x2 : Int), .bool false] 66 (0, 0)) := (by rw [← hW6]; exact (Below.heap_setCell _ _ _ _ (by show w4.heap.size ≠ (w.heap.size + 1); omega)).trans hx5)
          have r3 : W6.cell? ⟨w4.heap.size, 3, none⟩ = some (.int .i64 (n2 : Int)) := cell_of_row _ _ 3 _ _ _ hx6
          have r6 : W6.cell? ⟨w4.heap.size, 6, none⟩ = some (.bool false) := cell_of_row _ _ 6 _ _ _ hx6
          have HN6 : Hid (NB W6 (w.heap.size + 1) (l1.set n1 (a1 + 1))) := (by show NB _ _ _; rw [← hW6]; have h := HN5.out.set n1 (a1 + 1); push_cast at h; exact h)
          have HM6 : Hid (NB W6 w.heap.size l2) := (by show NB _ _ _; rw [← hW6]; exact (Below.heap_setCell _ _ _ _ (by show w.heap.size ≠ (w.heap.size + 1); omega)).trans HM5.out)
          have q2 : W6.cell? ⟨w.heap.size, n2, none⟩ = some (.int .i64 (a2 : Int)) := HM6.out.cell HA2.out
          have f2 : W6.frozen? ⟨w.heap.size, n2, none⟩ = false := HM6.out.free
          have HB6 : Hid (Below w.heap.size w W6) := (by show Below _ _ _; rw [← hW6]; exact (HBEL.out.trans (HB5.out.mono HBEL.out.size)).setCell (by show w.heap.size ≤ (w.heap.size + 1); omega) _)
          clear hb6 hx5 hx6
          go_wp2
          go_roundg (gk - 1)
          case measure => omega
          case rel =>
            refine ⟨rfl, rfl, k + 1, by omega, by go_num, by omega, ?_, ?_, ?_, HB6.out⟩
            · rw [HMT.out, if_neg (by simp), HMC.out]
            · rw [HU1.out]
              exact HN6.out
            · rw [HMT.out, if_neg (by simp), HL2.out]
              exact HM6.out
      · obtain rfl : k = n := by omega
        rw [show ts.take k = ts from List.take_of_length_le (by rw [HN.out]; exact Nat.le_refl _)] at HNB1 HNB2 HMC
        by_cases hlast : k < l
        · obtain ⟨y, ln, d, hta, hrt⟩ : ∃ y ln d, TkAt w A k y ln d ∧ rightT y ln d = false := by
            rcases HEND.out with h | ⟨_, h⟩
            · omega
            · exact h
          obtain ⟨b, o, rfl, hbB, v0, v1, v2⟩ := hta.below HBEL.out
          have HSP := Lib.hid (fun W => split_no y ln d W hrt)
          clear hta hrt
          go_wp2_with (go_at_call 28; refine (HSP.out _).mono ?_; rintro e w4 ⟨rfl, hb4⟩; unfold agR; have hb5 := ((Below.refl wr.heap.size wr).alloc (Nat.le_refl _) (.cells #[.int .u8 y, .int .i64 ln, .int .i64 d] 62)).trans (hb4.mono (by simp)); have HB5 := Lib.hid (HBEL.out.trans (hb5.mono HBEL.out.size)); clear hb4 hb5)
          refine bodyPost_ret (results_tmp3 rfl _ _ _) rfl ⟨HB5.out.alloc HB5.out.size _, .inl ⟨hlast, rfl⟩⟩
        · obtain rfl : k = l := by omega
          have hq256 : (incW (List.replicate 273 0) (fsts ts))[256]? = some ((fsts ts).count 256) := incW_at 273 _ (by decide)
          have HW1 : Hid (wt1 ts = (incW (List.replicate 273 0) (fsts ts)).set 256 ((fsts ts).count 256 + 1)) := by
            show _ = _
            rw [wt1, incW_append, incW_cons, List.getD, hq256]
            rfl
          have hcn1 : (fsts ts).count 256 ≤ 65536 := by
            have h := List.count_le_length (a := 256) (l := fsts ts)
            rw [fsts_len, HN.out] at h
            omega
          obtain ⟨l1, hl1⟩ : ∃ l1, incW (List.replicate 273 0) (fsts ts) = l1 := ⟨_, rfl⟩
          obtain ⟨a1, ha1⟩ : ∃ a1, (fsts ts).count 256 = a1 := ⟨_, rfl⟩
          rw [hl1] at HNB1 hq256 HW1
          rw [ha1] at hq256 HW1 hcn1
          have q1 : wr.cell? ⟨(w.heap.size + 1), 256, none⟩ = some (.int .i64 (a1 : Int)) := HNB1.out.cell hq256
          have f1 : wr.frozen? ⟨(w.heap.size + 1), 256, none⟩ = false := HNB1.out.free
          obtain ⟨W6, hW6⟩ : ∃ W6, wr.setCell ⟨(w.heap.size + 1), 256, none⟩ (.int .i64 ((a1 : Int) + 1)) = W6 := ⟨_, rfl⟩
          have HN6 : Hid (NB W6 (w.heap.size + 1) (wt1 ts)) := by
            show NB _ _ _
            rw [← hW6, HW1.out]
            have h := HNB1.out.set 256 (a1 + 1)
            push_cast at h
            exact h
          have HM6 : Hid (NB W6 w.heap.size (incW (List.replicate 30 0) (mts ts))) := by
            show NB _ _ _
            rw [← hW6]
            exact (Below.heap_setCell _ _ _ _ (by show w.heap.size ≠ (w.heap.size + 1); omega)).trans HNB2.out
          have HB6 : Hid (Below w.heap.size w W6) := by
            show Below _ _ _
            rw [← hW6]
            exact HBEL.out.setCell (by show w.heap.size ≤ (w.heap.size + 1); omega) _
          clear hl1 ha1 hq256
          by_cases hm0 : mc = 0
          · subst hm0
            have hnil : mts ts = [] := List.eq_nil_of_length_eq_zero HMC.out
            have hq0 : (incW (List.replicate 30 0) (mts ts))[0]? = some 0 := by rw [incW_at 30 _ (by decide), hnil]; rfl
            have q2 : W6.cell? ⟨w.heap.size, 0, none⟩ = some (.int .i64 ((0 : Nat) : Int)) := HM6.out.cell hq0
            have f2 : W6.frozen? ⟨w.heap.size, 0, none⟩ = false := HM6.out.free
            have HW2 : Hid (wt2 ts = (incW (List.replicate 30 0) (mts ts)).set 0 1) := by
              show _ = _
              rw [wt2, if_pos hnil, hnil]
              rfl
            clear hq0 hnil
            go_wp2
            refine bodyPost_ret (results_tmp3 rfl _ _ _) rfl ⟨HB6.out.setCell (by show w.heap.size ≤ w.heap.size; omega) _, (w.heap.size + 1), w.heap.size, rfl, (Below.heap_setCell _ _ _ _ (by show (w.heap.size + 1) ≠ w.heap.size; omega)).trans HN6.out, by rw [HW2.out]; exact HM6.out.set 0 1, by omega, by omega⟩
          · have t0 : ((mc : Int) == 0) = false := by simp; omega
            have HW2 : Hid (wt2 ts = incW (List.replicate 30 0) (mts ts)) := by
              show _ = _
              rw [wt2, if_neg (fun e => hm0 (by rw [← HMC.out, e]; rfl))]
            clear hm0
            go_wp2
            refine bodyPost_ret (results_tmp3 rfl _ _ _) rfl ⟨HB6.out, (w.heap.size + 1), w.heap.size, rfl, HN6.out, by rw [HW2.out]; exact HM6.out, by omega, by omega⟩
end Go.Proofs.YtaknladkodibaaaGreat
/- Layer 13: a class is put; a table is put, and its code made. -/
namespace Go.Proofs.YtaknladkodibaaaGreat
open Go.RowKit BitsP SymP

set_option maxRecDepth 100000 in
set_option maxHeartbeats 1000000 in
theorem putClass_any (g q base n : Nat) (zs : List Int) (S : Nat → Prop) (L : List Bool) (c : Nat × Nat × Nat) (w : World) (hr : caR zs = true) (hc : LCa w n g zs) (hw : WrS w q base S L) (hL : L.length ≤ 1000000000) (hbase : base ≤ w.heap.size) (h2 : c.2.1 ≤ 13) (h3 : c.2.2 < 2 ^ c.2.1) :
    Calls Tryz.prog 29 #[.pointer (some ⟨q, 0, none⟩), .pointer (some ⟨g, 0, none⟩), .agg #[.int .i64 (c.1 : Int), .int .i64 (c.2.1 : Int), .int .u32 (c.2.2 : Int)]] w fun e w' => e = .returned (.tuple #[]) ∧ ∃ S', WrS w' q base S' (L ++ clsB zs c) ∧ Mod S w w' ∧ ∀ k, S' k → S k ∨ w.heap.size ≤ k := by
  obtain ⟨num, nb, ex⟩ := c
  dsimp only at h2 h3
  have h32 : ex < 4294967296 := Nat.lt_of_lt_of_le h3 (Nat.le_trans (Nat.pow_le_pow_right (by decide) h2) (by decide))
  obtain ⟨W1, hW1⟩ : ∃ W1, w.alloc (.cells #[.int .i64 (num : Int), .int .i64 (nb : Int), .int .u32 (ex : Int)] 64) = W1 := ⟨_, rfl⟩
  have HB1 : Hid (Below w.heap.size w W1) := by show Below _ _ _; rw [← hW1]; exact (Below.refl _ w).alloc (Nat.le_refl _) _
  have HZ1 : Hid (W1.heap.size = w.heap.size + 1) := by show _ = _; rw [← hW1]; simp
  have HX1 : Hid (W1.heap[w.heap.size]? = some (.cells #[.int .i64 (num : Int), .int .i64 (nb : Int), .int .u32 (ex : Int)] 64 (0, 0))) := by show _ = _; rw [← hW1]; exact heap_alloc_new w _
  have c0 : W1.cell? ⟨w.heap.size, 0, none⟩ = some (.int .i64 (num : Int)) := cell_of_row _ _ 0 _ _ _ HX1.out
  have HP8 := Lib.hid (put8_any g q base zs S L (num : Int) W1 hr (hc.keep2 (Mod.of_below HB1.out) (fun _ h => h.elim)).lc (hw.keep (Mod.of_below HB1.out) (fun _ _ h => h)) (by omega) (by have := HZ1.out; omega))
  have HSL : Hid (∀ k, S k → k < w.heap.size) := hw.lt
  have HSY := Lib.hid (symB_len hr (num : Int))
  have hsy := HSY.out
  have HCB : Hid (clsB zs (num, nb, ex) = symB zs (num : Int) ++ bitsOf ex nb) := rfl
  have hz1 := HZ1.out
  clear hc hw hr h3
  go_enter Tryz.func29, Tryz.ntmps29
  go_wp2_with (first
    | (go_at_call 30; refine HP8.out.mono ?_; rintro e w2 ⟨rfl, S2, hw2, hm2, hs2⟩; have hx2 := hm2.keep HX1.out (fun h => by have := HSL.out _ h; omega); have HM2 := Lib.hid (((Mod.of_below HB1.out).mono (fun _ h => h.elim)).then_ hm2); have HS2 : Hid (∀ k, S2 k → S k ∨ w.heap.size ≤ k) := (fun k hk => (hs2 k hk).imp id (fun h => by omega)); have c1' : w2.cell? ⟨w.heap.size, 1, none⟩ = some (.int .i64 (nb : Int)) := cell_of_row _ _ 1 _ _ _ hx2; have c2' : w2.cell? ⟨w.heap.size, 2, none⟩ = some (.int .u32 (ex : Int)) := cell_of_row _ _ 2 _ _ _ hx2; have HWP := Lib.hid (wput_any q base S2 _ (ex : Int) (nb : Int) w2 hw2 (by rw [List.length_append]; omega) (by have := HM2.out.size; omega) (by omega) (by omega) (by omega) (by omega)); rw [cnt_nat (k := nb) (by omega), Int.toNat_natCast, List.append_assoc, ← HCB.out] at HWP; clear hw2 hm2 hs2 hx2)
    | (go_at_call 40; refine HWP.out.mono ?_; rintro e w3 ⟨rfl, S3, hw3, hm3, hs3⟩; have HW3 := Lib.hid hw3; have HM3 := Lib.hid (HM2.out.trans hm3 HS2.out); have HS3 : Hid (∀ k, S3 k → S k ∨ w.heap.size ≤ k) := (fun k hk => (hs3 k hk).elim (HS2.out k) (fun h => .inr (Nat.le_trans HM2.out.size h))); clear hw3 hm3 hs3))
  refine bodyPost_end (results_none rfl _ _ _) rfl ⟨rfl, S3, HW3.out, HM3.out, HS3.out⟩
theorem own_addr {w : World} {base : Nat} {e : TypeId} {size n c : Nat} {a : Addr} {xs : List Value} (h : w.ownsRow base e size (.slice (some a) n c) n xs) : base ≤ a.block := by
  obtain ⟨_, h2⟩ := h
  rcases h2 with ⟨h2, _⟩ | ⟨g, cap, cur, hv, hg, _⟩
  · cases h2
  · simp only [Value.slice.injEq, Option.some.injEq] at hv
    obtain ⟨rfl, _, _⟩ := hv
    exact hg
set_option maxRecDepth 100000 in
set_option maxHeartbeats 1000000 in
theorem putTable_any (A : Option Addr) (l c q base : Nat) (ws : List Nat) (S : Nat → Prop) (L : List Bool) (w : World) (hl : ws.length = l) (hm : l ≤ 320) (hb : Cells w w.heap.size A (nCs ws)) (hok : ∀ x ∈ ws, x ≤ 1073741824) (hpos : ∃ s x : Nat, ws[s]? = some x ∧ 0 < x) (hw : WrS w q base S L) (hL : L.length ≤ 100000000) (hbase : base ≤ w.heap.size) :
    Calls Tryz.prog 27 #[.pointer (some ⟨q, 0, none⟩), .slice A l c] w fun e w' => ∃ g n S', e = .returned (.pointer (some ⟨g, 0, none⟩)) ∧ WrS w' q base S' (L ++ tabP (lensW ws)) ∧ Mod S w w' ∧ (∀ k, S' k → S k ∨ w.heap.size ≤ k) ∧ LCa w' n g (zN (lensW ws)) ∧ (∀ k, S' k → k < n) ∧ g < w'.heap.size := by
  obtain ⟨s, x, hx, h0⟩ := hpos
  have hr := lensW_caR (by omega) hx h0
  have h1l : 1 ≤ l := by have := (List.getElem?_eq_some_iff.1 hx).1; omega
  have hv : ∀ y ∈ lensW ws, y ≤ 15 := fun y hy => by
    obtain ⟨k, hk⟩ := List.mem_iff_getElem?.1 hy
    have hkl := (List.getElem?_eq_some_iff.1 hk).1
    rw [lensW_len] at hkl
    have h2 := (lensW_pos (ns := ws) (by omega) (List.getElem?_eq_getElem hkl)).2
    rw [List.getD, hk] at h2
    exact h2
  have HLN := Lib.hid (lengths_ok A l c ws w.heap.size w hl (by omega) hb (Nat.le_refl _) hok)
  have HLL : Hid ((lensW ws).length = l) := by show _ = _; rw [lensW_len, hl]
  obtain ⟨os, hos⟩ : ∃ os, lensW ws = os := ⟨_, rfl⟩
  rw [hos] at HLN HLL hr hv ⊢
  have HR := Lib.hid hr
  have HV := Lib.hid hv
  have HW := Lib.hid hw
  clear hl hb hok hx h0 hr hv hw hos
  go_enter Tryz.func27, Tryz.ntmps27
  go_wp2_with (first
    | (go_at_call 35; refine HLN.out.mono ?_; rintro e w2 ⟨A2, c2, rfl, hown2, hb2⟩; have HO2 := Lib.hid hown2; have HB2 := Lib.hid hb2; clear hown2 hb2)
    | (go_at_call 36; refine (rnput_any A2 l c2 os q base S L w2 HLL.out h1l hm HV.out (Cells.of_own HO2.out) (fun a ha hS => by have h3 := HO2.out; rw [ha] at h3; have := own_addr h3; have := HW.out.lt _ hS; omega) (HW.out.keep (Mod.of_below HB2.out) (fun _ _ h => h)) (by omega) (Nat.le_trans hbase HB2.out.size)).mono ?_; rintro e w3 ⟨rfl, S3, hw3, hm3, hs3⟩; have HW3 := Lib.hid hw3; have HM3 := Lib.hid hm3; have HS3 := Lib.hid hs3; have HO3 := Lib.hid (own_keep HO2.out hm3 (fun k hk hS => by have := own_base HO2.out k hk; have := HW.out.lt _ hS; omega)); clear hw3 hm3 hs3)
    | (go_at_call 37; refine (new_low A2 l c2 (zN os) w3.heap.size w3 (by rw [zN_len]; exact HLL.out) (by omega) (by rw [show (zN os).map ic = nCs os from nCs_ic _]; exact Cells.of_own HO3.out) (Nat.le_refl _) HR.out).mono ?_; rintro e w5 ⟨g, rfl, hlc, hb5⟩; have HLC := Lib.hid hlc; have HB5 := Lib.hid hb5; clear hlc hb5))
  go_ret
  refine ⟨g, w3.heap.size, S3, rfl, HW3.out.keep (Mod.of_below HB5.out) (fun _ _ h => h), ?_, fun k hk => (HS3.out k hk).imp id (fun h => Nat.le_trans HB2.out.size h), HLC.out, HW3.out.lt, ?_⟩
  · exact (((Mod.of_below HB2.out).mono (fun _ h => h.elim)).then_ HM3.out).then_ ((Mod.of_below HB5.out).mono fun _ h => h.elim)
  · obtain ⟨_, _, _, _, _, _, _, h, _⟩ := HLC.out
    exact cb_lt h
end Go.Proofs.YtaknladkodibaaaGreat
/- Layer 13: a block is put. -/
namespace Go.Proofs.YtaknladkodibaaaGreat
open Go.RowKit BitsP SymP

/-- What the loop keeps: the writer. -/
structure BkI (w4 W : World) (q base : Nat) (S4 S' : Nat → Prop) (M : List Bool) : Prop where
  wr : WrS W q base S' M
  mod : Mod S4 w4 W
  own : ∀ k, S' k → S4 k ∨ w4.heap.size ≤ k
section
variable {w4 X Y : World} {q base : Nat} {S4 S1 S2 : Nat → Prop} {M M2 : List Bool}
theorem BkI.next (h : BkI w4 X q base S4 S1 M) (hw : WrS Y q base S2 M2) (hm : Mod S1 X Y) (hs : ∀ k, S2 k → S1 k ∨ X.heap.size ≤ k) : BkI w4 Y q base S4 S2 M2 :=
  ⟨hw, h.mod.trans hm h.own, fun k hk => (hs k hk).elim (h.own k) (fun h2 => .inr (Nat.le_trans h.mod.size h2))⟩
theorem BkI.below (h : BkI w4 X q base S4 S1 M) (hb : Below X.heap.size X Y) : BkI w4 Y q base S4 S1 M :=
  ⟨h.wr.keep (Mod.of_below hb) (fun _ _ h => h), h.mod.then_ ((Mod.of_below hb).mono fun _ h => h.elim), h.own⟩
end
theorem clsB_len {zs : List Int} (hr : caR zs = true) {c : Nat × Nat × Nat} (hc : c.2.1 ≤ 13) : (clsB zs c).length ≤ 28 := by
  have h := symB_len hr (c.1 : Int)
  unfold clsB
  rw [List.length_append, bitsOf_length]
  omega
theorem toksB_len {z1 z2 : List Int} (h1 : caR z1 = true) (h2 : caR z2 = true) : ∀ {ts : List Tk}, (∀ t ∈ ts, okT t) → (toksB z1 z2 ts).length ≤ 56 * ts.length
  | [], _ => Nat.zero_le _
  | t :: ts, h => by
    have hok := h t List.mem_cons_self
    have ih := toksB_len h1 h2 (ts := ts) (fun x hx => h x (List.mem_cons_of_mem _ hx))
    have a1 := clsB_len h1 (cls1_lt hok).2.1
    have a2 := clsB_len h2 (cls2_lt hok).2.1
    have e : toksB z1 z2 (t :: ts) = tokB z1 z2 t ++ toksB z1 z2 ts := rfl
    rw [e, List.length_append, List.length_cons]
    have a3 : (tokB z1 z2 t).length ≤ 56 := by
      unfold tokB
      rw [List.length_append]
      split
      · omega
      · rw [List.length_nil]; omega
    omega
theorem TkAt.mod {w W : World} {S : Nat → Prop} {A : Option Addr} {k : Nat} {y l d : Int} (h : TkAt w A k y l d) (hm : Mod S w W) (hA : ∀ a, A = some a → ¬ S a.block) : TkAt W A k y l d := by
  obtain ⟨b, o, rfl, h2, h3, h4, h5⟩ := h
  have hb := hm.block b h2 (hA _ rfl)
  exact ⟨b, o, rfl, Nat.lt_of_lt_of_le h2 hm.size, (World.cell?_of_block (a := ⟨b, o + k * 3, none⟩) hb).trans h3, (World.cell?_of_block (a := ⟨b, o + k * 3 + 1, none⟩) hb).trans h4, (World.cell?_of_block (a := ⟨b, o + k * 3 + 2, none⟩) hb).trans h5⟩
set_option maxRecDepth 100000 in
set_option maxHeartbeats 4000000 in
theorem blkput_any (A : Option Addr) (l c q base : Nat) (ts : List Tk) (S : Nat → Prop) (L : List Bool) (w : World) (hl : ts.length = l) (hm : l ≤ 65536) (hk : ∀ t ∈ ts, okT t) (hc : ∀ k t, ts[k]? = some t → TkAt w A k (t.1.toNat : Int) (t.2.1 : Int) (t.2.2 : Int)) (hA : 0 < l → ∀ a, A = some a → ¬ S a.block)
    (hw : WrS w q base S L) (hL : L.length ≤ 1000) (hbase : base ≤ w.heap.size) :
    Calls Tryz.prog 17 #[.pointer (some ⟨q, 0, none⟩), .slice A l c] w fun e w' => e = .returned (.int .i64 0) ∧ ∃ S', WrS w' q base S' (L ++ blkB ts) ∧ Mod S w w' ∧ ∀ k, S' k → S k ∨ w.heap.size ≤ k := by
  have HWT := Lib.hid (weights_gen A l c ts w hm hk hc (.inl hl))
  have HW := Lib.hid hw
  have HK := Lib.hid hk
  have HL := Lib.hid hl
  have HA := Lib.hid hA
  have HC := Lib.hid hc
  have HR1 : Hid (caR (zN (lensW (wt1 ts))) = true) := by
    obtain ⟨x, hx, h0⟩ := wt1_end ts
    exact lensW_caR (by rw [wt1_len]; omega) hx h0
  have HR2 : Hid (caR (zN (lensW (wt2 ts))) = true) := by
    obtain ⟨s, x, hx, h0⟩ := wt2_some ts hk
    exact lensW_caR (by rw [wt2_len]; omega) hx h0
  have HSL : Hid (∀ k, S k → k < w.heap.size) := hw.lt
  clear hw hk hl hA hc
  go_enter Tryz.func17, Tryz.ntmps17
  go_wp2_with fail
  refine HWT.out.mono ?_
  rintro e w2 ⟨hb2, ⟨hlt, _⟩ | ⟨_, g1, g2, rfl, hn1, hn2, hg1, hg2⟩⟩
  · have := HL.out
    omega
  have HB2 := Lib.hid hb2
  have hw2s := hb2.size
  have HN1 := Lib.hid hn1
  have HN2 := Lib.hid hn2
  have HT1 := Lib.hid (putTable_any (some ⟨g1, 0, none⟩) 273 273 q base (wt1 ts) S L w2 (wt1_len ts) (by omega) (NB.cellsT hn1) (fun x hx => by
      have h1 := incW_le 273 _ x hx
      rw [List.length_append, fsts, List.length_map, HL.out] at h1
      simp at h1
      omega) (by obtain ⟨x, h1, h2⟩ := wt1_end ts; exact ⟨256, x, h1, h2⟩) (HW.out.keep (Mod.of_below hb2) (fun _ _ h => h)) (by omega) (by omega))
  have HT2 : Hid (∀ (W : World) (S' : Nat → Prop) (L' : List Bool), NB W g2 (wt2 ts) → WrS W q base S' L' → L'.length ≤ 100000000 → base ≤ W.heap.size → _) := fun W S' L' hn hw hl hb => putTable_any (some ⟨g2, 0, none⟩) 30 30 q base (wt2 ts) S' L' W (wt2_len ts) (by omega) (NB.cellsT hn) (fun x hx => by
      have h1 := incW_le 30 _ x hx
      have h2 := mts_len ts
      split at h1
      · simp at h1; omega
      · have := HL.out; omega) (wt2_some ts HK.out) hw hl hb
  have HTL : Hid (∀ ws : List Nat, ws.length ≤ 320 → (∃ s x : Nat, ws[s]? = some x ∧ 0 < x) → (tabP (lensW ws)).length ≤ 100000) := fun ws hws hex => by
    obtain ⟨s, x, hx, h0⟩ := hex
    have hv : ∀ y ∈ lensW ws, y ≤ 15 := fun y hy => by
      obtain ⟨k, hk⟩ := List.mem_iff_getElem?.1 hy
      have hkl := (List.getElem?_eq_some_iff.1 hk).1
      rw [lensW_len] at hkl
      have h2 := (lensW_pos (ns := ws) (by omega) (List.getElem?_eq_getElem hkl)).2
      rw [List.getD, hk] at h2
      exact h2
    obtain ⟨t, ht⟩ := partsP_ne (ls := lensW ws) (by rw [lensW_len]; have := (List.getElem?_eq_some_iff.1 hx).1; omega)
    have h2 := partsB_len (lnP_right ht (partsP_all hv t ht)) (partsP (lensW ws) 0)
    have h3 := parts_few (lensW ws)
    rw [lensW_len] at h3
    rw [tabP, List.length_append, List.length_append, bitsOf_length, lensB_len, lnP_len]
    omega
  have HTL1 := HTL.out (wt1 ts) (by rw [wt1_len]; omega) (by obtain ⟨x, h1, h2⟩ := wt1_end ts; exact ⟨256, x, h1, h2⟩)
  have HTL2 := HTL.out (wt2 ts) (by rw [wt2_len]; omega) (wt2_some ts HK.out)
  obtain ⟨z1, hz1⟩ : ∃ z1, zN (lensW (wt1 ts)) = z1 := ⟨_, rfl⟩
  obtain ⟨z2, hz2⟩ : ∃ z2, zN (lensW (wt2 ts)) = z2 := ⟨_, rfl⟩
  obtain ⟨T1, hT1⟩ : ∃ T1, tabP (lensW (wt1 ts)) = T1 := ⟨_, rfl⟩
  obtain ⟨T2, hT2⟩ : ∃ T2, tabP (lensW (wt2 ts)) = T2 := ⟨_, rfl⟩
  have HBLK : Hid (L ++ blkB ts = ((L ++ T1) ++ T2) ++ toksB z1 z2 ts ++ symB z1 256) := by show _ = _; rw [blkB, hz1, hz2, hT1, hT2]; simp only [List.append_assoc]
  rw [hz1] at HR1
  rw [hz2] at HR2
  rw [hz1, hT1] at HT1
  rw [hT1] at HTL1
  rw [hT2] at HTL2
  rw [hz2, hT2] at HT2
  clear hn1 hn2 hb2 hz1 hz2 hT1 hT2 HTL HWT
  go_wp2_with (first
    | (go_at_call 27; refine HT1.out.mono ?_; rintro e w3 ⟨ga, na, S3, rfl, hw3, hm3, hs3, hla, hna, hga⟩; clear HT1; have HW3 := Lib.hid hw3; have HM3 := Lib.hid hm3; have HS3 := Lib.hid hs3; have HLA := Lib.hid hla; have HNA := Lib.hid hna; have HGA := Lib.hid hga; have HN3 := Lib.hid (show NB w3 g2 (wt2 ts) from hm3.keep HN2.out (fun h => by have := HSL.out g2 h; omega)); clear hw3 hm3 hs3 hla hna hga)
    | (go_at_call 27; refine (HT2.out w3 S3 _ HN3.out HW3.out (by rw [List.length_append]; omega) (by have := HM3.out.size; omega)).mono ?_; rintro e w4 ⟨gb, nb, S4, rfl, hw4, hm4, hs4, hlb, hnb, hgb⟩; have HW4 := Lib.hid hw4; have HM4 := Lib.hid hm4; have HS4 := Lib.hid hs4; have HLB := Lib.hid hlb; have HNB4 := Lib.hid hnb; have HLA4 := Lib.hid (HLA.out.keep2 hm4 (fun k hk => .inl (HNA.out k hk))); clear hw4 hm4 hs4 hlb hnb hgb))
  have HOW : Hid (∀ k, S4 k → S k ∨ w.heap.size ≤ k) := fun k hk => (HS4.out k hk).elim (fun h => (HS3.out k h).imp id (fun h => by have := HB2.out.size; omega)) (fun h => .inr (by have := HB2.out.size; have := HM3.out.size; omega))
  have HMW : Hid (∀ W, Mod S4 w4 W → Mod S w W) := fun W hW => ((((Mod.of_below HB2.out).mono (fun _ h => h.elim)).then_ HM3.out).trans HM4.out (fun k hk => (HS3.out k hk).imp id (fun h => by have := HB2.out.size; omega))).trans hW HOW.out
  have HLAW : Hid (∀ W, Mod S4 w4 W → LCa W na ga z1) := fun W hW => HLA4.out.keep2 hW (fun k hk => (HS4.out k hk).imp (HNA.out k) (fun h => by have := HGA.out; omega))
  have HLBW : Hid (∀ W, Mod S4 w4 W → LCa W nb gb z2) := fun W hW => HLB.out.keep hW HNB4.out
  obtain ⟨M4, hM4⟩ : ∃ M4, (L ++ T1) ++ T2 = M4 := ⟨_, rfl⟩
  have HM4E := Lib.hid hM4
  have hM4l : M4.length ≤ 300000 := by rw [← hM4, List.length_append, List.length_append]; omega
  have HI0 : Hid (BkI w4 w4 q base S4 S4 (M4 ++ toksB z1 z2 (ts.take 0))) := ⟨by have h := HW4.out; rw [hM4] at h; simpa [toksB] using h, Mod.refl _ _, fun _ h => .inl h⟩
  have HTB : Hid (∀ k, (toksB z1 z2 (ts.take k)).length ≤ 3700000) := fun k => by
    have h := toksB_len HR1.out HR2.out (ts := ts.take k) (fun t ht => HK.out t (List.mem_of_mem_take ht))
    rw [List.length_take] at h
    omega
  clear hM4 HW4 HN1 HN2 HN3 HLA HW3 HTL1 HTL2 HT2
  go_loopg [32] l (fun gk i wr => ∃ (k : Nat) (S' : Nat → Prop), k + gk = l ∧ i = .int .i64 (k : Int) ∧ BkI w4 wr q base S4 S' (M4 ++ toksB z1 z2 (ts.take k)))
  case atStart => exact ⟨0, S4, by omega, rfl, HI0.out⟩
  case round =>
    obtain ⟨k, S', hkg, rfl, hbi⟩ := hrel
    have HBI := Lib.hid hbi
    have htb := HTB.out k
    have hlen : (M4 ++ toksB z1 z2 (ts.take k)).length ≤ 4000000 := by rw [List.length_append]; omega
    clear hbi HI0
    by_cases hkl : k < l
    · obtain ⟨t, ht⟩ : ∃ t, ts[k]? = some t := ⟨_, List.getElem?_eq_getElem (by rw [HL.out]; exact hkl)⟩
      have hok := HK.out t (List.mem_of_getElem? ht)
      have HSP := Lib.hid (fun W => splitT_any t W hok)
      have hc1 := cls1_lt hok
      have hc2 := cls2_lt hok
      have HTK : Hid (toksB z1 z2 (ts.take (k + 1)) = toksB z1 z2 (ts.take k) ++ tokB z1 z2 t) := by show _ = _; rw [List.take_add_one, ht, ← toksB_snoc]; rfl
      have HTO : Hid (tokB z1 z2 t = clsB z1 (cls1 t) ++ (if isM t then clsB z2 (cls2 t) else [])) := rfl
      obtain ⟨b, o, rfl, hbB, v0, v1, v2⟩ := (HC.out k t ht).mod (HMW.out wr HBI.out.mod) (HA.out (by omega))
      obtain ⟨⟨n1, b1, x1⟩, hq1⟩ : ∃ q, cls1 t = q := ⟨_, rfl⟩
      obtain ⟨⟨n2, b2, x2⟩, hq2⟩ : ∃ q, cls2 t = q := ⟨_, rfl⟩
      rw [hq1] at HSP HTO hc1
      rw [hq2] at HSP HTO hc2
      obtain ⟨m, hmm⟩ : ∃ m, isM t = m := ⟨_, rfl⟩
      rw [hmm] at HSP HTO
      dsimp only at HSP hc1 hc2
      clear ht hok hq1 hq2 hmm htb hbB
      cases m with
      | true =>
          go_upto_region 11 with (go_at_call 28; refine (HSP.out _).mono ?_; rintro e w6 ⟨rfl, hb6⟩; unfold agR; have hb7 := ((Below.refl wr.heap.size wr).alloc (Nat.le_refl _) (.cells #[.int .u8 (t.1.toNat : Int), .int .i64 (t.2.1 : Int), .int .i64 (t.2.2 : Int)] 62)).trans (hb6.mono (by simp)); obtain ⟨W5, hW5⟩ : ∃ W5, w6.alloc (.cells #[.int .i64 (n1 : Int), .int .i64 (b1 : Int), .int .u32 (x1 : Int), .int .i64 (n2 : Int), .int .i64 (b2 : Int), .int .u32 (x2 : Int), .bool true] 66) = W5 := ⟨_, rfl⟩; have hb8 : Below wr.heap.size wr W5 := (by rw [← hW5]; exact hb7.alloc hb7.size _); have hx5 : W5.heap[w6.heap.size]? = some (.cells #[.int .i64 (n1 : Int), .int .i64 (b1 : Int), .int .u32 (x1 : Int), .int .i64 (n2 : Int), .int .i64 (b2 : Int), .int .u32 (x2 : Int), .bool true] 66 (0, 0)) := (by rw [← hW5]; exact heap_alloc_new w6 _); have hs6 : wr.heap.size ≤ w6.heap.size := hb7.size; have HW5 := Lib.hid hW5; clear hW5 hb6 hb7)
          rw [HW5.out]
          have HI5 := Lib.hid (HBI.out.below hb8)
          have HX5 := Lib.hid hx5
          have r0 : W5.cell? ⟨w6.heap.size, 0, none⟩ = some (.int .i64 (n1 : Int)) := cell_of_row _ _ 0 _ _ _ hx5
          have r1 : W5.cell? ⟨w6.heap.size, 1, none⟩ = some (.int .i64 (b1 : Int)) := cell_of_row _ _ 1 _ _ _ hx5
          have r2 : W5.cell? ⟨w6.heap.size, 2, none⟩ = some (.int .u32 (x1 : Int)) := cell_of_row _ _ 2 _ _ _ hx5
          have hbw5 : base ≤ W5.heap.size := by have := HI5.out.mod.size; have := HM4.out.size; have := HM3.out.size; omega
          have HP1 := Lib.hid (putClass_any ga q base na z1 S' (M4 ++ toksB z1 z2 (ts.take k)) (n1, b1, x1) W5 HR1.out (HLAW.out W5 HI5.out.mod) HI5.out.wr (by omega) hbw5 hc1.2.1 hc1.2.2)
          have HLT : Hid (∀ j, S' j → j < wr.heap.size) := HBI.out.wr.lt
          clear hb8 hx5 HW5
          go_wp2_with (first
            | (go_at_call 29; refine HP1.out.mono ?_; rintro e w7 ⟨rfl, S7, hw7, hm7, hs7⟩; clear HP1; have HI7 := Lib.hid (HI5.out.next hw7 hm7 hs7); have hx7 := hm7.keep HX5.out (fun h => by have := HLT.out _ h; omega); have r3 : w7.cell? ⟨w6.heap.size, 3, none⟩ = some (.int .i64 (n2 : Int)) := cell_of_row _ _ 3 _ _ _ hx7; have r4 : w7.cell? ⟨w6.heap.size, 4, none⟩ = some (.int .i64 (b2 : Int)) := cell_of_row _ _ 4 _ _ _ hx7; have r5 : w7.cell? ⟨w6.heap.size, 5, none⟩ = some (.int .u32 (x2 : Int)) := cell_of_row _ _ 5 _ _ _ hx7; have r6 : w7.cell? ⟨w6.heap.size, 6, none⟩ = some (.bool true) := cell_of_row _ _ 6 _ _ _ hx7; have HP2 := Lib.hid (putClass_any gb q base nb z2 S7 ((M4 ++ toksB z1 z2 (ts.take k)) ++ clsB z1 (n1, b1, x1)) (n2, b2, x2) w7 HR2.out (HLBW.out w7 HI7.out.mod) HI7.out.wr (by rw [List.length_append]; have := clsB_len HR1.out (c := (n1, b1, x1)) hc1.2.1; omega) (by have := hm7.size; omega) hc2.2.1 hc2.2.2); clear hw7 hm7 hs7 hx7)
            | (go_at_call 29; refine HP2.out.mono ?_; rintro e w8 ⟨rfl, S8, hw8, hm8, hs8⟩; have HI8 := Lib.hid (HI7.out.next hw8 hm8 hs8); clear hw8 hm8 hs8))
          go_roundg (gk - 1)
          case measure => omega
          case rel =>
            refine ⟨k + 1, S8, by omega, by go_num, ?_⟩
            have h := HI8.out
            rw [HTK.out, HTO.out]
            simpa only [if_true, Bool.false_eq_true, if_false, List.append_nil, List.append_assoc] using h
      | false =>
          go_upto_region 11 with (go_at_call 28; refine (HSP.out _).mono ?_; rintro e w6 ⟨rfl, hb6⟩; unfold agR; have hb7 := ((Below.refl wr.heap.size wr).alloc (Nat.le_refl _) (.cells #[.int .u8 (t.1.toNat : Int), .int .i64 (t.2.1 : Int), .int .i64 (t.2.2 : Int)] 62)).trans (hb6.mono (by simp)); obtain ⟨W5, hW5⟩ : ∃ W5, w6.alloc (.cells #[.int .i64 (n1 : Int), .int .i64 (b1 : Int), .int .u32 (x1 : Int), .int .i64 (n2 : Int), .int .i64 (b2 : Int), .int .u32 (x2 : Int), .bool false] 66) = W5 := ⟨_, rfl⟩; have hb8 : Below wr.heap.size wr W5 := (by rw [← hW5]; exact hb7.alloc hb7.size _); have hx5 : W5.heap[w6.heap.size]? = some (.cells #[.int .i64 (n1 : Int), .int .i64 (b1 : Int), .int .u32 (x1 : Int), .int .i64 (n2 : Int), .int .i64 (b2 : Int), .int .u32 (x2 : Int), .bool false] 66 (0, 0)) := (by rw [← hW5]; exact heap_alloc_new w6 _); have hs6 : wr.heap.size ≤ w6.heap.size := hb7.size; have HW5 := Lib.hid hW5; clear hW5 hb6 hb7)
          rw [HW5.out]
          have HI5 := Lib.hid (HBI.out.below hb8)
          have HX5 := Lib.hid hx5
          have r0 : W5.cell? ⟨w6.heap.size, 0, none⟩ = some (.int .i64 (n1 : Int)) := cell_of_row _ _ 0 _ _ _ hx5
          have r1 : W5.cell? ⟨w6.heap.size, 1, none⟩ = some (.int .i64 (b1 : Int)) := cell_of_row _ _ 1 _ _ _ hx5
          have r2 : W5.cell? ⟨w6.heap.size, 2, none⟩ = some (.int .u32 (x1 : Int)) := cell_of_row _ _ 2 _ _ _ hx5
          have hbw5 : base ≤ W5.heap.size := by have := HI5.out.mod.size; have := HM4.out.size; have := HM3.out.size; omega
          have HP1 := Lib.hid (putClass_any ga q base na z1 S' (M4 ++ toksB z1 z2 (ts.take k)) (n1, b1, x1) W5 HR1.out (HLAW.out W5 HI5.out.mod) HI5.out.wr (by omega) hbw5 hc1.2.1 hc1.2.2)
          have HLT : Hid (∀ j, S' j → j < wr.heap.size) := HBI.out.wr.lt
          clear hb8 hx5 HW5
          go_wp2_with (first
            | (go_at_call 29; refine HP1.out.mono ?_; rintro e w7 ⟨rfl, S7, hw7, hm7, hs7⟩; clear HP1; have HI7 := Lib.hid (HI5.out.next hw7 hm7 hs7); have hx7 := hm7.keep HX5.out (fun h => by have := HLT.out _ h; omega); have r3 : w7.cell? ⟨w6.heap.size, 3, none⟩ = some (.int .i64 (n2 : Int)) := cell_of_row _ _ 3 _ _ _ hx7; have r4 : w7.cell? ⟨w6.heap.size, 4, none⟩ = some (.int .i64 (b2 : Int)) := cell_of_row _ _ 4 _ _ _ hx7; have r5 : w7.cell? ⟨w6.heap.size, 5, none⟩ = some (.int .u32 (x2 : Int)) := cell_of_row _ _ 5 _ _ _ hx7; have r6 : w7.cell? ⟨w6.heap.size, 6, none⟩ = some (.bool false) := cell_of_row _ _ 6 _ _ _ hx7;  clear hw7 hm7 hs7 hx7))
          go_roundg (gk - 1)
          case measure => omega
          case rel =>
            refine ⟨k + 1, S7, by omega, by go_num, ?_⟩
            have h := HI7.out
            rw [HTK.out, HTO.out]
            simpa only [if_true, Bool.false_eq_true, if_false, List.append_nil, List.append_assoc] using h
    · obtain rfl : k = l := by omega
      rw [show ts.take k = ts from List.take_of_length_le (by rw [HL.out]; exact Nat.le_refl _)] at HBI hlen
      have HP9 := Lib.hid (put8_any ga q base z1 S' (M4 ++ toksB z1 z2 ts) 256 wr HR1.out (HLAW.out wr HBI.out.mod).lc HBI.out.wr (by omega) (by have := HBI.out.mod.size; have := HM4.out.size; have := HM3.out.size; omega))
      go_wp2_with (go_at_call 30; refine HP9.out.mono ?_; rintro e w9 ⟨rfl, S9, hw9, hm9, hs9⟩; have HI9 := Lib.hid (HBI.out.next hw9 hm9 hs9); clear hw9 hm9 hs9)
      go_ret
      refine ⟨rfl, S9, ?_, HMW.out _ HI9.out.mod, fun j hj => (HI9.out.own j hj).elim (HOW.out j) (fun h => .inr (by have := HM4.out.size; have := HM3.out.size; have := HB2.out.size; omega))⟩
      have h := HI9.out.wr
      rw [HBLK.out, HM4E.out]
      exact h
end Go.Proofs.YtaknladkodibaaaGreat
/- Layer 13, plainly: the tokens of bytes may be taken; with a byte less they may not; how many bits a block has. -/
namespace Go.Proofs.YtaknladkodibaaaGreat
open BitsP SymP

theorem tokAt_kind (bs : List UInt8) (lv : Int) (p : Nat) : tokAt bs lv p = (bs.getD p 0, 0, 0) ∨
    ∃ n d : Nat, tokAt bs lv p = (0, n, d) ∧ 3 ≤ n ∧ n ≤ 258 ∧ 1 ≤ d ∧ d ≤ 32768 ∧ d ≤ p ∧ p + n ≤ bs.length := by
  unfold tokAt
  split
  · exact .inl rfl
  · rename_i h
    refine .inr ⟨_, _, rfl, ?_⟩
    rcases bestM_of bs (p : Int) (depthN lv) with h0 | ⟨hd, hn⟩
    · exact absurd (.inl (by rw [h0])) h
    · have h3 := lenI_three hd
      have hb := bestM_le bs (p : Int) (depthN lv)
      obtain ⟨_, hc1, hc2, hc3, hc4, _⟩ := cand_of hd
      rw [hn] at hb ⊢
      have hr := lenI_at bs (a := p) (d := (bestM bs (p : Int) (depthN lv)).2) (by omega) hc2 hc3 (by omega)
      rw [hr] at h3 hb ⊢
      have hle := runM_le bs p (bestM bs (p : Int) (depthN lv)).2 (capM bs p) 0
      have hcap : capM bs p ≤ bs.length - p := by unfold capM; omega
      exact ⟨h3, hb, hc2, hc3, by omega, by omega⟩
theorem tokAt_okT (bs : List UInt8) (lv : Int) (p : Nat) : okT (tokAt bs lv p) := by
  rcases tokAt_kind bs lv p with h | ⟨n, d, h, h1, h2, h3, h4, _⟩
  · rw [h]; exact .inl ⟨rfl, rfl⟩
  · rw [h]; exact .inr ⟨h1, h2, h3, h4, rfl⟩
theorem toks_okT (bs : List UInt8) (lv : Int) : ∀ (k p : Nat), bs.length - p ≤ k → ∀ t ∈ toks bs lv p, okT t
  | 0, p, h => by rw [toks_end (by omega)]; intro t ht; cases ht
  | k + 1, p, h => by
    by_cases hp : p < bs.length
    · have h1 := tsz_pos (tokAt bs lv p)
      rw [toks_step hp]
      intro t ht
      rcases List.mem_cons.1 ht with rfl | ht
      · exact tokAt_okT _ _ _
      · exact toks_okT bs lv k _ (by omega) t ht
    · rw [toks_end (by omega)]; intro t ht; cases ht
theorem tab_few {ws : List Nat} (hws : ws.length ≤ 320) (hex : ∃ s x : Nat, ws[s]? = some x ∧ 0 < x) : (tabP (lensW ws)).length ≤ 100000 := by
  obtain ⟨s, x, hx, h0⟩ := hex
  have hv := lensW_le hws
  obtain ⟨t, ht⟩ := partsP_ne (ls := lensW ws) (by rw [lensW_len]; have := (List.getElem?_eq_some_iff.1 hx).1; omega)
  have h2 := partsB_len (lnP_right ht (partsP_all hv t ht)) (partsP (lensW ws) 0)
  have h3 := parts_few (lensW ws)
  rw [lensW_len] at h3
  rw [tabP, List.length_append, List.length_append, bitsOf_length, lensB_len, lnP_len]
  omega
theorem blkB_few {ts : List Tk} (hok : ∀ t ∈ ts, okT t) : (blkB ts).length ≤ 200015 + 56 * ts.length := by
  have h1 := tab_few (ws := wt1 ts) (by rw [wt1_len]; omega) (by obtain ⟨x, h1, h2⟩ := wt1_end ts; exact ⟨256, x, h1, h2⟩)
  have h2 := tab_few (ws := wt2 ts) (by rw [wt2_len]; omega) (wt2_some ts hok)
  have hr1 : caR (zN (lensW (wt1 ts))) = true := by
    obtain ⟨x, hx, h0⟩ := wt1_end ts
    exact lensW_caR (by rw [wt1_len]; omega) hx h0
  have hr2 : caR (zN (lensW (wt2 ts))) = true := by
    obtain ⟨s, x, hx, h0⟩ := wt2_some ts hok
    exact lensW_caR (by rw [wt2_len]; omega) hx h0
  have h3 := toksB_len hr1 hr2 hok
  have h4 := symB_len hr1 256
  rw [blkB, List.length_append, List.length_append, List.length_append]
  omega
end Go.Proofs.YtaknladkodibaaaGreat
