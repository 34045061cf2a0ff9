/- Layer 11: a token's bytes put behind others. -/
import Derived.Test.YtglbmghpkipipaaTxRt
import Derived.Test.YtglbmghpkipipaaLists
namespace Go.Proofs.Ytglbmghpkipipaa
open Go.RowKit Go.Shelf

theorem byteElemT : Elem Try.prog 22 5 (.int .u8 0) 1 1 := Elem.of Try.underlying22 (by kernel_rfl) rfl (by omega)
theorem byteCellsOne (x : UInt8) : [Value.int .u8 (x.toNat : Int)] = byteCells [x] := rfl
set_option maxHeartbeats 2000000 in
theorem expand_any (A : Option Addr) (n c base : Nat) (out : List UInt8) (t : Ti) (w : World) (hn : out.length = n) (hm : n ≤ 100000000) (hok : okT t = true) (hd : t.2.2 ≤ (n : Int)) (hbase : base ≤ w.heap.size) (ho : OwnB w base 5 (.slice A n c) n out) :
    Calls Try.prog 30 #[.slice A n c, tiV t] w fun e w' => ∃ A' c', e = .returned (.slice A' (putT t out).length c') ∧ App w base 5 1 (.slice A n c) (putT t out).length (byteCells (putT t out)) w' (.slice A' (putT t out).length c') := by
  have HN := Lib.hid hn
  have HO := Lib.hid ho
  have hcase := okT_cases hok
  obtain ⟨b, nn, d⟩ := t
  unfold tiV
  dsimp only at hcase hd ⊢
  rcases hcase with ⟨rfl, rfl⟩ | ⟨h1, h2, h3, h4, rfl⟩
  · have HP : Hid (putT (b, 0, 0) out = out ++ [b]) := if_pos rfl
    have HPL : Hid ((putT (b, 0, 0) out).length = n + 1) := by show _ = _; rw [HP.out, List.length_append, HN.out]; rfl
    obtain ⟨W1, hW1⟩ : ∃ W1, w.alloc (.cells #[.int .u8 (b.toNat : Int), .int .i64 0, .int .i64 0] 32) = W1 := ⟨_, rfl⟩
    have HO1 : Hid (OwnB W1 base 5 (.slice A n c) n out) := by show OwnB _ _ _ _ _ _; rw [← hW1]; exact HO.out.alloc _
    have hx1 : W1.heap[w.heap.size]? = some (.cells #[.int .u8 (b.toNat : Int), .int .i64 0, .int .i64 0] 32) := by rw [← hW1]; exact heap_alloc_new w _
    have HZ1 : Hid (W1.heap.size = w.heap.size + 1) := by show _ = _; rw [← hW1]; simp
    have c0 := cell_of_row W1 w.heap.size 0 _ _ _ hx1
    have c1 := cell_of_row W1 w.heap.size 1 _ _ _ hx1
    have HBH : Hid (∀ (w' : World) (v' : Value) (m : Nat) (xs : List Value), App W1 base 5 1 (.slice A n c) m xs w' v' → App w base 5 1 (.slice A n c) m xs w' v') := fun w' v' m xs h => by rw [← hW1] at h; exact h.behind _
    clear ho hn hok hd hx1
    go_enter Try.func30, Try.ntmps30
    go_wp2_with (at_builtin; refine wpList_app1 _ byteElemT rfl (.tmp 8) (.tmp 11) rfl base (.slice A n c) n _ rfl HO1.out _ rfl rfl (by simp [Value.oneCell']) (by unfold maxLen; omega) (by omega) (by have := HZ1.out; omega) ?_; intro A' c' w2 hA; have HA := Lib.hid hA; clear hA)
    go_ret
    have h := HA.out
    rw [byteCellsOne, ← byteCells_append] at h
    refine ⟨A', c', by rw [HPL.out]; rfl, ?_⟩
    rw [HPL.out, HP.out]
    exact HBH.out _ _ _ _ h
  · obtain ⟨k, rfl⟩ : ∃ k : Nat, nn = (k : Int) := ⟨nn.toNat, by omega⟩
    obtain ⟨q, rfl⟩ : ∃ q : Nat, d = (q : Int) := ⟨d.toNat, by omega⟩
    have HP : Hid (putT (0, (k : Int), (q : Int)) out = copyN q k out) := by show _ = _; unfold putT; simp only; rw [if_neg (by omega), Int.toNat_natCast, Int.toNat_natCast]
    have HPL : Hid ((putT (0, (k : Int), (q : Int)) out).length = n + k) := by show _ = _; rw [HP.out, copyN_len, HN.out]
    have t0 : ((k : Int) == 0) = false := by simp; omega
    have t0' : (k == 0) = false := by simp; omega
    obtain ⟨W1, hW1⟩ : ∃ W1, w.alloc (.cells #[.int .u8 0, .int .i64 (k : Int), .int .i64 (q : Int)] 32) = W1 := ⟨_, rfl⟩
    have HX1 : Hid (W1.heap[w.heap.size]? = some (.cells #[.int .u8 0, .int .i64 (k : Int), .int .i64 (q : Int)] 32)) := by show _ = _; rw [← hW1]; exact heap_alloc_new w _
    have HO1 : Hid (OwnB W1 base 5 (.slice A n c) n out) := by show OwnB _ _ _ _ _ _; rw [← hW1]; exact HO.out.alloc _
    have HZ1 : Hid (W1.heap.size = w.heap.size + 1) := by show _ = _; rw [← hW1]; simp
    have HBH : Hid (∀ (w' : World) (v' : Value) (m : Nat) (xs : List Value), App W1 base 5 1 (.slice A n c) m xs w' v' → App w base 5 1 (.slice A n c) m xs w' v') := fun w' v' m xs h => by rw [← hW1] at h; exact h.behind _
    have c1 := cell_of_row W1 w.heap.size 1 _ _ _ HX1.out
    have c0 := cell_of_row W1 w.heap.size 0 _ _ _ HX1.out
    have c2 := cell_of_row W1 w.heap.size 2 _ _ _ HX1.out
    clear ho hn hok
    go_enter Try.func30, Try.ntmps30
    go_wp2
    go_loopg [0, 15] k (fun gk s0 s15 wr => ∃ (j m : Nat) (Aj : Option Addr) (cj : Nat), j + gk = k ∧ m = n + j ∧ s0 = .slice Aj m cj ∧ s15 = .int .i64 (j : Int) ∧ App W1 base 5 1 (.slice A n c) m (byteCells (copyN q j out)) wr (.slice Aj m cj))
    case atStart => exact ⟨0, n, A, c, by omega, rfl, rfl, rfl, App.start HO1.out⟩
    case round =>
      obtain ⟨j, m, Aj, cj, hk, hmn, rfl, rfl, hap⟩ := hrel
      have HM := Lib.hid hmn
      have HAP := Lib.hid hap
      by_cases hj : j < k
      · have e2 : wr.cell? ⟨w.heap.size, 2, none⟩ = some (.int .i64 (q : Int)) := by
          refine cell_of_row wr w.heap.size 2 _ _ _ ((hap.grow.block w.heap.size (by have := HZ1.out; omega) (fun e => ?_)).trans HX1.out)
          have := own_lt HO.out w.heap.size e.symm
          omega
        obtain ⟨p, hp⟩ : ∃ p, m - q = p := ⟨_, rfl⟩
        have hsub : IntKind.i64.wrap ((m : Int) - (q : Int)) = (p : Int) := by rw [IntWalk.i64_in _ (by omega)]; omega
        have hlen : (copyN q j out).length = m := by rw [copyN_len, HN.out]; omega
        obtain ⟨x, hx⟩ : ∃ x, (copyN q j out)[p]? = some x := ⟨_, List.getElem?_eq_getElem (by omega)⟩
        have HCP : Hid (copyN q (j + 1) out = copyN q j out ++ [x]) := by show _ = _; rw [copyN, hlen, hp, List.getD, hx]; rfl
        obtain ⟨bb, o, rfl, _, hcc⟩ := (Cells.of_own hap.own) (by rw [byteCells_length]; omega)
        have e3 : wr.cell? ⟨bb, o + p, none⟩ = some (.int .u8 (x.toNat : Int)) := hcc p _ (byteCells_get hx)
        have hpm : p < m := by omega
        have hsz := hap.grow.size
        have hmb : m ≤ 100000300 := by omega
        clear hap hmn hx hcc hp hlen
        go_wp2_with (at_builtin; refine wpList_app1 _ byteElemT rfl (.tmp 17) (.tmp 26) rfl base (.slice (some ⟨bb, o, none⟩) m cj) m _ rfl HAP.out.own _ rfl rfl (by simp [Value.oneCell']) (by unfold maxLen; omega) (by omega) (by have := HZ1.out; omega) ?_; intro A2 c2 w2 hA; have HA := Lib.hid hA; clear hA)
        go_roundg (gk - 1)
        case measure => omega
        case rel =>
          refine ⟨j + 1, m + 1, A2, c2, by omega, by have := HM.out; omega, rfl, by go_num, ?_⟩
          have h := HAP.out.trans HA.out
          rw [byteCellsOne, ← byteCells_append, ← HCP.out] at h
          exact h
      · obtain rfl : j = k := by omega
        clear hap hmn
        go_wp2
        go_ret
        have hm := HM.out
        subst hm
        refine ⟨Aj, cj, by rw [HPL.out]; rfl, ?_⟩
        rw [HPL.out, HP.out]
        exact HBH.out _ _ _ _ HAP.out
end Go.Proofs.Ytglbmghpkipipaa
