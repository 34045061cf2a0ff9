/- Layer 19: the reference's bytes of a directory. -/
import Derived.Test.YthnoobhjkhafcaaDoorEnL
import Derived.Outline
namespace Go.Proofs.YthnoobhjkhafcaaDoor
open Go.RowKit CrcP FieldP

theorem byte2 (a b : Nat) (_h : a < 256) (_h2 : b < 256) : [Value.int .u8 (a : Int), Value.int .u8 (b : Int)] = byteCells (putN a 1 ++ putN b 1) := by
  have h1 : ∀ a : Nat, a < 256 → byteCells (putN a 1) = [Value.int .u8 (a : Int)] := fun a h => by
    show byteCells ([] ++ [UInt8.ofNat (sh a 0)]) = _
    rw [← byteCells_snoc]
    show [Value.int .u8 (((sh a 0 : Nat) : Int) % 256)] = _
    have : sh a 0 = a := by first | rfl | simp [sh]
    rw [this]
    congr 2
    omega
  rw [byteCells_append, h1 a _h, h1 b _h2]
  rfl
theorem putN4_cells (x : Nat) : (byteCells (putN x (cnt 4))).length = 4 * 1 := by rw [byteCells_length, putN_length]; rfl
structure PutSt (w : World) (g : Nat) (m : LM) (W : World) (v : Value) (n : Nat) (D : List UInt8) : Prop where
  own : OwnY W w.heap.size v n D
  bel : Below w.heap.size w W
  box : Box W g #[.string m.nm, .int .i64 m.at_, .int .i64 m.fr, .int .i64 m.ar, .int .i64 m.sz, .int .u32 m.su, .int .i64 m.me] 34
  ne : ∀ q, ownS v q → q ≠ g
theorem PutSt.app {w W W' : World} {g n k : Nat} {m : LM} {v v' : Value} {D bs : List UInt8} (h : PutSt w g m W v n D) (hA : AppT W w.heap.size 5 v (n + k) (byteCells D ++ byteCells bs) W' v') : PutSt w g m W' v' (n + k) (D ++ bs) :=
  ⟨by have := hA.own; rwa [← byteCells_append] at this, hA.below h.bel h.bel.size (fun q hq => (h.own.lt q hq).1), Box.mod h.box hA.mod (fun hq => h.ne _ hq rfl), fun q hq => (hA.place q hq).elim (h.ne q) (fun h' => by have := h.box.lt; omega)⟩
theorem PutSt.below {w W W' : World} {g n : Nat} {m : LM} {v : Value} {D : List UInt8} (h : PutSt w g m W v n D) (hb : Below W.heap.size W W') : PutSt w g m W' v n D :=
  ⟨h.own.keep (Mod.of_below hb) (fun _ _ h => h), h.bel.trans (hb.mono h.bel.size), h.box.below hb h.box.lt, h.ne⟩
theorem Cells.of_block2 {w : World} {b B : Nat} {cs : Array Value} {t : TypeId} (h : w.heap[b]? = some (.cells cs t (0, 0))) (hB : b < B) : Cells w B (some ⟨b, 0, none⟩) cs.toList := fun _ => by
  refine ⟨b, 0, rfl, hB, fun j u hj => ?_⟩
  rw [Nat.zero_add, cell_of_row w b j _ _ _ h, ← Array.getElem?_toList]
  exact hj
set_option maxRecDepth 100000 in
set_option maxHeartbeats 8000000 in
theorem refEnPut_any (A : Option Addr) (l c : Nat) (ms : List LM) (B : Nat) (w : World) (hl : ms.length = l) (hok : ∀ m ∈ ms, m.Ok) (hb : Cells w B A (ms.map LM.cells).flatten) (hB : B ≤ w.heap.size) (ha : allB ms = true) :
    Calls Tryd.prog 16 #[.slice A l c] w fun e w' => ∃ A' c', e = .returned (.slice A' (rowsM ms) c') ∧ OwnY w' w.heap.size (.slice A' (rowsM ms) c') (rowsM ms) (dirB ms) ∧ Below w.heap.size w w' := by
  have HC := Lib.hid hb
  have HL := Lib.hid hl
  have HFL := Lib.hid (mems_len ms)
  have HOK := Lib.hid hok
  have HB := Lib.hid hB
  obtain ⟨hs1, hs2⟩ := dir_small ha
  have hl200 : l ≤ 200 := by omega
  have HGD := Lib.hid (allB_true.1 ha).2
  have hrow := rowsM_le hs2
  have hrows : rowsM ms ≤ 16400 := by omega
  have HCUT := Lib.hid (rowsM_cut ms)
  clear hb hok hB hl ha hs1 hs2 hrow
  go_enter Tryd.func16, Tryd.ntmps16
  go_wp2
  go_loopg [3, 4] l (fun gk vb i wr => ∃ k : Nat, k + gk = l ∧ i = .int .i64 k ∧ OwnY wr w.heap.size vb (rowsM (ms.take k)) (dirB (ms.take k)) ∧ Below w.heap.size w wr)
  case atStart => exact ⟨0, by omega, rfl, OwnT.nil _ _ _, Below.refl _ _⟩
  case round =>
    obtain ⟨k, hk, rfl, hown, hbel⟩ := hrel
    have HOWN := Lib.hid hown
    have HBEL := Lib.hid hbel
    clear hown hbel
    obtain ⟨Ak, ck, rfl⟩ := HOWN.out.form
    by_cases h : k < l
    · obtain ⟨m, hx⟩ : ∃ x, ms[k]? = some x := ⟨_, List.getElem?_eq_getElem (by have := HL.out; omega)⟩
      obtain ⟨b, o, rfl, hbB, hc⟩ := HC.out (by rw [HFL.out, HL.out]; omega)
      have hBw := HB.out
      have HM := Lib.hid (mem_at hbB hc (hBw_below HBEL.out hBw) hx)
      obtain ⟨c0, c1, c2, c3, c4, c5, c6⟩ := HM.out
      obtain ⟨hmx1, hmx2, hme0, hme1, hat0, hat1, har0, har1, hsz0, hsz1, hfr⟩ := memB_nums (goodTo_at HGD.out (by have := HL.out; omega) hx)
      clear hfr
      obtain ⟨_, _, _, hsu0, hsu1⟩ := HOK.out m (List.mem_of_getElem? hx)
      have HD1 := Lib.hid (dirB_take hx)
      have HR1 := Lib.hid (rowsM_take hx)
      have hcut := HCUT.out (k + 1)
      rw [HR1.out] at hcut
      have HMB : Hid (mbB m = putN m.me.toNat 1 ++ putN m.nm.size 1 ++ putN m.at_.toNat 4 ++ putN m.sz.toNat 4 ++ putN m.ar.toNat 4 ++ putN m.su.toNat 4 ++ m.nm.data.toList) := rfl
      obtain ⟨W0, hW0⟩ : ∃ W0, wr.alloc (.cells #[.string m.nm, .int .i64 m.at_, .int .i64 m.fr, .int .i64 m.ar, .int .i64 m.sz, .int .u32 m.su, .int .i64 m.me] 34) = W0 := ⟨_, rfl⟩
      obtain ⟨g, hg⟩ : ∃ g, wr.heap.size = g := ⟨_, rfl⟩
      have HX0 : Hid (Box W0 g #[.string m.nm, .int .i64 m.at_, .int .i64 m.fr, .int .i64 m.ar, .int .i64 m.sz, .int .u32 m.su, .int .i64 m.me] 34) := by rw [← hW0, ← hg]; exact heap_alloc_new wr _
      have HB0 : Hid (Below w.heap.size w W0) := by rw [← hW0]; exact HBEL.out.alloc HBEL.out.size _
      have HO0 : Hid (OwnY W0 w.heap.size (.slice Ak (rowsM (ms.take k)) ck) (rowsM (ms.take k)) (dirB (ms.take k))) := by rw [← hW0]; exact OwnT.alloc HOWN.out _
      have HNE0 : Hid (∀ q, ownS (.slice Ak (rowsM (ms.take k)) ck) q → q ≠ g) := fun q hq => by have := (HOWN.out.lt q hq).2; omega
      clear hc hx HM HOWN HBEL
      obtain ⟨n, hn⟩ : ∃ n, rowsM (ms.take k) = n := ⟨_, rfl⟩
      obtain ⟨D, hD⟩ : ∃ D, dirB (ms.take k) = D := ⟨_, rfl⟩
      rw [hn] at HO0 HNE0 HR1 hcut
      rw [hn]
      rw [hD] at HO0 HD1
      obtain ⟨me, hme⟩ : ∃ q : Nat, m.me = q := ⟨m.me.toNat, by omega⟩
      have HMC : Hid (#[Value.int .u8 m.me, .int .u8 (m.nm.size : Int)].toList = byteCells (putN m.me.toNat 1 ++ putN m.nm.size 1)) := by show _ = _; rw [hme, Int.toNat_natCast]; exact byte2 me m.nm.size (by omega) (by omega)
      clear hme hn hD
      have HS : Hid (PutSt w g m W0 (.slice Ak n ck) n D) := ⟨HO0.out, HB0.out, HX0.out, HNE0.out⟩
      have x0 := HS.out.box.cell 0
      have x6 := HS.out.box.cell 6
      have hz := HS.out.bel.size
      clear HO0 HB0 HX0 HNE0
      go_wp2_with (first
        | (go_at_call 32; refine (refPut_any _ 4 _ (by omega) (by omega) (by omega) (by omega)).mono ?_; rintro e w4 ⟨A4, c4, rfl, ho4, hb4⟩; have HS := Lib.hid (HS.out.below hb4); have HQ := Lib.hid (OwnT.of ho4); clear ho4 hb4; have x0 := HS.out.box.cell 0; have x1 := HS.out.box.cell 1; have x3 := HS.out.box.cell 3; have x4 := HS.out.box.cell 4; have x5 := HS.out.box.cell 5; have hz := HS.out.bel.size)
        | (at_builtin; refine wpList_appT _ byteElem rfl (.tmp 16) (.tmp 24) rfl w.heap.size _ _ _ rfl (OwnT.alloc HS.out.own _) (W0.heap.size + 1) (some ⟨W0.heap.size, 0, none⟩) 2 2 (byteCells (putN m.me.toNat 1 ++ putN m.nm.size 1)) rfl rfl (by rw [← HMC.out]; exact Cells.of_block2 (heap_alloc_new W0 _) (Nat.lt_succ_self _)) (byteCells_one _) (by unfold maxLen; omega) (by omega) (by simp; omega) ?_; intro A1 c1' w1 hA; have HS := Lib.hid ((HS.out.below ((Below.refl _ _).alloc (Nat.le_refl _) _)).app hA); clear hA; have x0 := HS.out.box.cell 0; have x1 := HS.out.box.cell 1; have x3 := HS.out.box.cell 3; have x4 := HS.out.box.cell 4; have x5 := HS.out.box.cell 5; have hz := HS.out.bel.size)
        | (at_builtin; refine wpList_appT _ byteElem rfl (.tmp 26) (.tmp 30) rfl w.heap.size _ _ _ rfl HS.out.own _ _ 4 _ _ rfl (putN4_cells _) HQ.out.cells (byteCells_one _) (by unfold maxLen; omega) (by omega) hz ?_; intro A1 c1' w1 hA; have HS := Lib.hid (HS.out.app hA); clear hA HQ; have x0 := HS.out.box.cell 0; have x1 := HS.out.box.cell 1; have x3 := HS.out.box.cell 3; have x4 := HS.out.box.cell 4; have x5 := HS.out.box.cell 5; have hz := HS.out.bel.size)
        | (at_builtin; refine wpList_appT _ byteElem rfl (.tmp 32) (.tmp 36) rfl w.heap.size _ _ _ rfl HS.out.own _ _ 4 _ _ rfl (putN4_cells _) HQ.out.cells (byteCells_one _) (by unfold maxLen; omega) (by omega) hz ?_; intro A1 c1' w1 hA; have HS := Lib.hid (HS.out.app hA); clear hA HQ; have x0 := HS.out.box.cell 0; have x1 := HS.out.box.cell 1; have x3 := HS.out.box.cell 3; have x4 := HS.out.box.cell 4; have x5 := HS.out.box.cell 5; have hz := HS.out.bel.size)
        | (at_builtin; refine wpList_appT _ byteElem rfl (.tmp 38) (.tmp 42) rfl w.heap.size _ _ _ rfl HS.out.own _ _ 4 _ _ rfl (putN4_cells _) HQ.out.cells (byteCells_one _) (by unfold maxLen; omega) (by omega) hz ?_; intro A1 c1' w1 hA; have HS := Lib.hid (HS.out.app hA); clear hA HQ; have x0 := HS.out.box.cell 0; have x1 := HS.out.box.cell 1; have x3 := HS.out.box.cell 3; have x4 := HS.out.box.cell 4; have x5 := HS.out.box.cell 5; have hz := HS.out.bel.size)
        | (at_builtin; refine wpList_appT _ byteElem rfl (.tmp 44) (.tmp 47) rfl w.heap.size _ _ _ rfl HS.out.own _ _ 4 _ _ rfl (putN4_cells _) HQ.out.cells (byteCells_one _) (by unfold maxLen; omega) (by omega) hz ?_; intro A1 c1' w1 hA; have HS := Lib.hid (HS.out.app hA); clear hA HQ; have x0 := HS.out.box.cell 0; have x1 := HS.out.box.cell 1; have x3 := HS.out.box.cell 3; have x4 := HS.out.box.cell 4; have x5 := HS.out.box.cell 5; have hz := HS.out.bel.size)
        | (at_builtin; go_must (skip; refine wpList_appT_string _ byteElem Tryd.underlying9 rfl (.tmp 49) (.tmp 51) rfl w.heap.size _ _ _ rfl HS.out.own m.nm rfl (by unfold maxLen; omega) (by omega) hz ?_; intro A1 c1' w1 hA; have HS := Lib.hid (HS.out.app hA); clear hA)))
      go_roundg (gk - 1)
      case measure => omega
      case rel =>
        refine ⟨k + 1, by omega, by go_num, ?_, HS.out.bel⟩
        rw [HR1.out, HD1.out, HMB.out]
        have := HS.out.own
        simp only [List.append_assoc] at this ⊢
        rw [show n + (18 + m.nm.size) = n + 2 + 4 + 4 + 4 + 4 + m.nm.size by omega]
        exact this
    · obtain rfl : k = l := by omega
      have ht : ms.take k = ms := List.take_of_length_le (by have := HL.out; omega)
      rw [ht] at HOWN
      rw [ht]
      clear ht
      go_wp2
      go_ret
      exact ⟨Ak, ck, rfl, HOWN.out, HBEL.out⟩
end Go.Proofs.YthnoobhjkhafcaaDoor
