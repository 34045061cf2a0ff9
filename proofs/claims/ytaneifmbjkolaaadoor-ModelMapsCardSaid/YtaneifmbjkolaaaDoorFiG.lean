/- Layer 25: slices.Grow of nothing, slices.Concat of rows of files. -/
import Derived.Test.YtaneifmbjkolaaaDoorFiW
import Derived.Test.YtaneifmbjkolaaaDoorRowK
import Derived.Lib.AppendZerosOnto
namespace Go.Proofs.YtaneifmbjkolaaaDoor
open Go.RowKit

theorem fileZero : (Tryd.prog.info? 25).map (fun i => (i.zero, i.size, i.bytes)) = some (some (.agg #[.string ⟨#[]⟩, .slice none 0 0]), 2, 40) := by kernel_rfl
set_option maxRecDepth 100000 in
set_option maxHeartbeats 1000000 in
theorem growF_any (n : Nat) (w : World) (hn : n ≤ 1000000) :
    Calls Tryd.prog 48 #[.slice none 0 0, .int .i64 n] w fun e w' => ∃ A' c', e = .returned (.slice A' 0 c') ∧ w'.ownsRow w.heap.size 25 2 (.slice A' 0 c') 0 [] ∧ Below w.heap.size w w' := by
  by_cases h0 : n = 0
  · subst h0
    go_enter Tryd.func48, Tryd.ntmps48
    go_wp2
    go_ret
    exact ⟨none, 0, rfl, World.ownsRow_nil _ _ _ _, Below.refl _ _⟩
  · obtain ⟨ti, hti, hz0, hsz0, hbz0⟩ := info_parts fileZero
    obtain ⟨z, hz⟩ : ∃ z : Value, z = .agg #[.string ⟨#[]⟩, .slice none 0 0] := ⟨_, rfl⟩
    have hzs : z.cells.size = 2 := by rw [hz]; rfl
    rw [← hz] at hz0
    obtain ⟨G, hG⟩ : ∃ G, grownCap w n 0 25 = G := ⟨_, rfl⟩
    have hGn : n ≤ G := by rw [← hG]; exact grownCap_ge w _ _ _
    have hGm : G ≤ maxLen := by rw [← hG]; exact grownCap_le_maxLen w n 0 _ (by unfold maxLen; omega)
    obtain ⟨row, hrow⟩ : ∃ row : Array Value, row = Builtin.zeroCells z.cells n ++ Builtin.zeroCells z.cells (G - n) := ⟨_, rfl⟩
    have hrs : row.size = G * 2 := by rw [hrow, Array.size_append, size_zeroCells, size_zeroCells, hzs]; omega
    obtain ⟨W1, hW1⟩ : ∃ W1, W1 = w.drew.alloc (.cells row 25) := ⟨_, rfl⟩
    have hrz : ∀ ty, (Builtin.append_ #[22, 3] ty #[.slice none 0 0, .int .i64 (n : Int)]).run Tryd.prog w = .ok (.slice (some ⟨w.heap.size, 0, none⟩) n G) W1 := fun ty => by
      have h := Lib.run_append_grow_zeros w 22 3 ty 25 ti z .i64 .i64 Tryd.underlying22 Tryd.underlying3 hti hz0 none 0 0 [] (run_firstCells_none (P := Tryd.prog) w.drew _ _ _ _) n (by omega) (by omega) (by omega) (by omega) (by rw [hbz0]; omega) (by rw [hbz0, Nat.zero_add]; exact growslice_fits (by omega) (by omega))
      rw [Nat.zero_add, hG] at h
      rw [h, hW1, hrow]
      congr 3
      apply Array.toList_inj.1
      simp
    have hrow1 : W1.heap[w.heap.size]? = some (.cells row 25 (0, 0)) := by rw [hW1]; exact heap_alloc_new w.drew _
    have HO : Hid (W1.ownsRow w.heap.size 25 2 (.slice (some ⟨w.heap.size, 0, none⟩) 0 G) 0 []) := ownK_of (cur := row) hrow1 (Nat.le_refl _) (Nat.zero_le _) hGm hrs (by simp)
    have HB : Hid (Below w.heap.size w W1) := by show Below _ _ _; rw [hW1]; exact (Below.refl _ w).drew.alloc (Nat.le_refl _) _
    have hw1 : IntKind.i64.wrap ((n : Int)) = (n : Int) := IntWalk.i64_in _ (by omega)
    have hn0 : (0 : Int) < (n : Int) := by omega
    have hn1 : 0 < n := by omega
    clear hrow1 hrs hrow hW1 hG hz hzs hz0 hsz0 hbz0 hti h0
    go_enter Tryd.func48, Tryd.ntmps48
    go_wp2_with (at_builtin; refine wpList_append_run _ rfl _ _ _ _ rfl _ _ _ _ rfl rfl (hrz _) ?_)
    go_ret
    exact ⟨_, _, rfl, HO.out, HB.out⟩

/-- A row in memory. -/
structure Rw where
  ad : Option Addr
  len : Nat
  cp : Nat
  xs : List Value
def Rw.val (r : Rw) : Value := .slice r.ad r.len r.cp
def sumR (rs : List Rw) : Nat := (rs.map Rw.len).sum
theorem sumR_take {rs : List Rw} {k : Nat} {r : Rw} (h : rs[k]? = some r) : sumR (rs.take (k + 1)) = sumR (rs.take k) + r.len := by
  unfold sumR
  rw [List.take_add_one, h, List.map_append, List.sum_append]
  simp
theorem sumR_le (rs : List Rw) (k : Nat) : sumR (rs.take k) ≤ sumR rs := by
  conv => rhs; rw [← List.take_append_drop k rs]
  unfold sumR
  rw [List.map_append, List.sum_append]
  omega
theorem flatR_take {rs : List Rw} {k : Nat} {r : Rw} (h : rs[k]? = some r) : ((rs.take (k + 1)).map Rw.xs).flatten = ((rs.take k).map Rw.xs).flatten ++ r.xs := by
  rw [List.take_add_one, h]
  simp
set_option maxRecDepth 100000 in
set_option maxHeartbeats 1000000 in
theorem concatF_any (b m : Nat) (rs : List Rw) (w : World) (hm : rs.length = m) (hb : ∀ k r, rs[k]? = some r → w.cell? ⟨b, k, none⟩ = some (.slice r.ad r.len r.cp)) (hbb : b < w.heap.size)
    (hr : ∀ r ∈ rs, r.xs.length = r.len * 2 ∧ (∀ u ∈ r.xs, u.oneCell' = true) ∧ Cells w w.heap.size r.ad r.xs) (hs : sumR rs ≤ 1000000) (hm2 : m ≤ 1000) :
    Calls Tryd.prog 37 #[.slice (some ⟨b, 0, none⟩) m m] w fun e w' => ∃ A' c', e = .returned (.slice A' (sumR rs) c') ∧ w'.ownsRow w.heap.size 25 2 (.slice A' (sumR rs) c') (sumR rs) (rs.map Rw.xs).flatten ∧ Below w.heap.size w w' := by
  have HB := Lib.hid hb
  have HR := Lib.hid hr
  have HM := Lib.hid hm
  have HS := Lib.hid hs
  have HG := Lib.hid (growF_any (sumR rs) w hs)
  have HBB := Lib.hid hbb
  clear hb hr hm hs hbb
  go_enter Tryd.func37, Tryd.ntmps37
  go_wp2
  go_loopg [3, 5, 11] m (fun gk s _ i wr => ∃ k : Nat, k + gk = m ∧ i = .int .i64 k ∧ s = .int .i64 (sumR (rs.take k)) ∧ w = wr)
  case atStart => exact ⟨0, by omega, rfl, rfl, rfl⟩
  case round =>
    obtain ⟨k, hk, rfl, rfl, rfl⟩ := hrel
    by_cases h : k < m
    · obtain ⟨r, hr⟩ : ∃ r, rs[k]? = some r := ⟨_, List.getElem?_eq_getElem (by have := HM.out; omega)⟩
      have c0 := HB.out k r hr
      have HT := Lib.hid (sumR_take hr)
      obtain ⟨t, ht⟩ : ∃ t, sumR (rs.take k) = t := ⟨_, rfl⟩
      rw [ht] at HT
      have hbd : t + r.len ≤ 1000000 := by have := sumR_le rs (k + 1); have := HT.out; have := HS.out; omega
      have hw1 : IntKind.i64.wrap ((k : Int) + 1) = (k : Int) + 1 := IntWalk.i64_in _ (by omega)
      have hw2 : IntKind.i64.wrap ((t : Int) + (r.len : Int)) = (t : Int) + (r.len : Int) := IntWalk.i64_in _ (by omega)
      have hng : ¬ (t : Int) + (r.len : Int) < 0 := by omega
      rw [ht]
      clear hr ht
      go_wp2
      go_roundg (gk - 1)
      case measure => omega
      case rel => exact ⟨k + 1, by omega, by go_num, by rw [HT.out]; rfl, rfl⟩
    · obtain rfl : k = m := by omega
      have e : rs.take k = rs := List.take_of_length_le (by have := HM.out; omega)
      rw [e]
      go_wp2_with (go_at_call 48; refine HG.out.mono ?_; rintro e1 w1 ⟨A1, c1, rfl, ho1, hb1⟩; have HO1 := Lib.hid ho1; have HB1 := Lib.hid hb1; clear ho1 hb1)
      go_loopg [6, 8, 27] k (fun gk v _ i wr => ∃ j : Nat, j + gk = k ∧ i = .int .i64 j ∧ wr.ownsRow w.heap.size 25 2 v (sumR (rs.take j)) ((rs.take j).map Rw.xs).flatten ∧ Below w.heap.size w wr)
      case atStart => exact ⟨0, by omega, rfl, HO1.out, HB1.out⟩
      case round =>
        obtain ⟨j, hj, rfl, hown, hbel⟩ := hrel
        have HOWN := Lib.hid hown
        have HBL := Lib.hid hbel
        clear hown hbel
        obtain ⟨Aj, cj, rfl⟩ := own_form' HOWN.out
        by_cases h2 : j < k
        · obtain ⟨r, hr⟩ : ∃ r, rs[j]? = some r := ⟨_, List.getElem?_eq_getElem (by have := HM.out; omega)⟩
          have c0 := (HBL.out.cell (p := ⟨b, j, none⟩) HBB.out).trans (HB.out j r hr)
          have HX := Lib.hid (HR.out r (List.mem_of_getElem? hr))
          have HT := Lib.hid (sumR_take hr)
          have HF := Lib.hid (flatR_take hr)
          obtain ⟨t, ht⟩ : ∃ t, sumR (rs.take j) = t := ⟨_, rfl⟩
          rw [ht] at HT HOWN
          have hbd : t + r.len ≤ 1000000 := by have := sumR_le rs (j + 1); have := HT.out; have := HS.out; omega
          have hw1 : IntKind.i64.wrap ((j : Int) + 1) = (j : Int) + 1 := IntWalk.i64_in _ (by omega)
          have HC := Lib.hid (HX.out.2.2.below HBL.out (Nat.le_refl _))
          have hz := HBL.out.size
          rw [ht]
          clear hr ht
          go_wp2_with (at_builtin; go_must (skip; refine wpList_app _ fileElem rfl (.tmp 31) (.tmp 32) rfl w.heap.size (.slice Aj t cj) t _ rfl HOWN.out w.heap.size r.ad r.len r.cp r.xs rfl HX.out.1 HC.out HX.out.2.1 (by unfold maxLen; omega) (by omega) hz ?_; intro A3 c3 w3 hA; have HA := Lib.hid hA; clear hA))
          go_roundg (gk - 1)
          case measure => omega
          case rel => exact ⟨j + 1, by omega, by go_num, by rw [HT.out, HF.out]; exact HA.out.own, HA.out.below HBL.out HBL.out.size (fun q hq => (HOWN.out.lt q hq).1)⟩
        · obtain rfl : j = k := by omega
          go_wp2
          go_ret
          rw [e] at HOWN
          exact ⟨Aj, cj, by rw [e]; rfl, HOWN.out, HBL.out⟩
end Go.Proofs.YtaneifmbjkolaaaDoor
