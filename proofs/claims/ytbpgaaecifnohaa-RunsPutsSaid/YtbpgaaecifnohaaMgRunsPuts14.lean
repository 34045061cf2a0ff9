/- Layer 8: all codes: the program's and the reference's. -/
import Derived.Test.YtbpgaaecifnohaaMgRunsPuts13
import Derived.MakeChecks
import Derived.RegionTactic
namespace Go.Proofs.Ytbpgaaecifnohaa
open Go.RowKit

def vstep (zs : List Int) (st : Nat × Nat × List Int) (s : Nat) : Nat × Nat × List Int :=
  (st.1 * 2 ^ ((zs.getD s 0).toNat - st.2.1) + 1, (zs.getD s 0).toNat, st.2.2.set s ((st.1 * 2 ^ ((zs.getD s 0).toNat - st.2.1) : Nat) : Int))
/-- Behind the symbols of a list: the next code, the last length, the codes. -/
def vst (zs : List Int) (os : List Nat) : Nat × Nat × List Int := os.foldl (vstep zs) (0, 0, List.replicate zs.length 0)
def caV (zs : List Int) : List Int := (vst zs (ordL zs)).2.2
theorem vst_snoc (zs : List Int) (os : List Nat) (s : Nat) : vst zs (os ++ [s]) = vstep zs (vst zs os) s := by simp [vst]
def osum (zs : List Int) (os : List Nat) : Nat := (os.map fun s => wt (zs.getD s 0)).sum
theorem osum_snoc (zs : List Int) (os : List Nat) (s : Nat) : osum zs (os ++ [s]) = osum zs os + wt (zs.getD s 0) := by simp [osum]
theorem osum_le (zs : List Int) : ∀ os : List Nat, osum zs os ≤ os.length * 32768
  | [] => Nat.zero_le _
  | s :: os => by
    have := osum_le zs os
    have := wt_le (zs.getD s 0)
    unfold osum at *
    rw [List.map_cons, List.sum_cons, List.length_cons, Nat.succ_mul]
    omega
structure VI (zs : List Int) (os : List Nat) (st : Nat × Nat × List Int) : Prop where
  sum : st.1 * 2 ^ (15 - st.2.1) = osum zs os
  le : st.2.1 ≤ 15
  z : st.2.1 = 0 → st.1 = 0
  len : st.2.2.length = zs.length
theorem VI.start (zs : List Int) : VI zs [] (vst zs []) := ⟨by simp [vst, osum], Nat.zero_le _, fun _ => rfl, by simp [vst]⟩
theorem VI.val {zs : List Int} {os : List Nat} {x a n : Nat} {vs : List Int} (h : VI zs os (x, a, vs)) (h15 : n ≤ 15) (ha : a ≤ n) : x * 2 ^ (n - a) * 2 ^ (15 - n) = osum zs os := by
  rw [← h.sum, Nat.mul_assoc, ← Nat.pow_add, show n - a + (15 - n) = 15 - a by omega]
theorem VI.snoc {zs : List Int} {os : List Nat} {st : Nat × Nat × List Int} {s n : Nat} (h : VI zs os st) (hs : zs[s]? = some (n : Int)) (h1 : 1 ≤ n) (h15 : n ≤ 15) (ha : st.2.1 ≤ n) : VI zs (os ++ [s]) (vstep zs st s) := by
  obtain ⟨x, a, vs⟩ := st
  have hg := getD_of hs
  have hwt : wt (n : Int) = 2 ^ (15 - n) := by unfold wt; rw [if_pos (by omega), Int.toNat_natCast]
  refine ⟨?_, ?_, ?_, ?_⟩
  · rw [osum_snoc, hg, hwt, ← h.val h15 ha]
    simp only [vstep, hg, Int.toNat_natCast]
    rw [Nat.add_mul, Nat.one_mul]
  · simp only [vstep, hg, Int.toNat_natCast]; exact h15
  · simp only [vstep, hg, Int.toNat_natCast]; omega
  · simp only [vstep, List.length_set]; exact h.len
theorem VI.small {zs : List Int} {os : List Nat} {x a n : Nat} {vs : List Int} (h : VI zs os (x, a, vs)) (h15 : n ≤ 15) (ha : a ≤ n) : x * 2 ^ (n - a) ≤ os.length * 32768 := by
  have h1 := h.val h15 ha
  have h2 := osum_le zs os
  have h3 : x * 2 ^ (n - a) * 1 ≤ x * 2 ^ (n - a) * 2 ^ (15 - n) := Nat.mul_le_mul_left _ (Nat.one_le_two_pow)
  omega
theorem VI.small0 {zs : List Int} {os : List Nat} {x a : Nat} {vs : List Int} (h : VI zs os (x, a, vs)) : x ≤ os.length * 32768 := by
  have h1 := h.small h.le (Nat.le_refl a)
  rwa [Nat.sub_self, Nat.pow_zero, Nat.mul_one] at h1
theorem mem_get {α : Type} {l : List α} {k : Nat} {x : α} (h : l[k]? = some x) : x ∈ l := List.mem_of_getElem? h
theorem vi_take (zs : List Int) : ∀ k, k ≤ (ordL zs).length → VI zs ((ordL zs).take k) (vst zs ((ordL zs).take k)) ∧ (∀ s n : Nat, (ordL zs)[k]? = some s → zs[s]? = some (n : Int) → (vst zs ((ordL zs).take k)).2.1 ≤ n)
  | 0, _ => ⟨VI.start zs, fun s n _ _ => Nat.zero_le _⟩
  | k + 1, hk => by
    obtain ⟨h1, h2⟩ := vi_take zs k (by omega)
    obtain ⟨s, hs⟩ : ∃ s, (ordL zs)[k]? = some s := ⟨_, List.getElem?_eq_getElem (by omega)⟩
    obtain ⟨n, hn, hn1, hn15⟩ := whole_mem (mem_get hs)
    rw [take_snoc' hs, vst_snoc]
    refine ⟨h1.snoc hn hn1 hn15 (h2 s n hs hn), fun t m ht hm => ?_⟩
    have hp := List.pairwise_iff_getElem.1 (show (ordL zs).Pairwise (ltx zs) from whole_sorted zs 15) k (k + 1) (List.getElem?_eq_some_iff.1 hs).1 (List.getElem?_eq_some_iff.1 ht).1 (by omega)
    have e1 := (List.getElem?_eq_some_iff.1 hs).2
    have e2 := (List.getElem?_eq_some_iff.1 ht).2
    rw [e1, e2] at hp
    unfold ltx at hp
    rw [getD_of hn, getD_of hm] at hp
    simp only [vstep, getD_of hn, Int.toNat_natCast]
    omega

def IntBlock (w : World) (g : Nat) (vs : List Int) : Prop := w.heap[g]? = some (.cells (vs.map ic).toArray 3 (0, 0))
theorem ib_cell {w : World} {g : Nat} {vs : List Int} {i : Nat} {x : Int} (h : IntBlock w g vs) (hx : vs[i]? = some x) : w.cell? ⟨g, i, none⟩ = some (.int .i64 x) := by
  rw [cell_of_row w g i _ _ _ h]
  simp [hx, ic]
theorem ib_free {w : World} {g : Nat} {vs : List Int} (h : IntBlock w g vs) (i : Nat) : w.frozen? ⟨g, i, none⟩ = false := frozen_of_row w g i _ _ h
theorem ib_set {w : World} {g : Nat} {vs : List Int} (h : IntBlock w g vs) (i : Nat) (y : Int) : IntBlock (w.setCell ⟨g, i, none⟩ (.int .i64 y)) g (vs.set i y) := by
  unfold IntBlock
  rw [heap_setCell_same w g i _ _ _ h]
  rw [List.setIfInBounds_toArray, List.map_set]
  rfl
theorem ib_cells {w : World} {g B : Nat} {vs : List Int} (h : IntBlock w g vs) (hB : g < B) : Cells w B (some ⟨g, 0, none⟩) (vs.map ic) := fun _ =>
  ⟨g, 0, rfl, hB, fun j u hu => by
    rw [Nat.zero_add, cell_of_row w g j _ _ _ h]
    simpa using hu⟩
theorem ib_lt {w : World} {g : Nat} {vs : List Int} (h : IntBlock w g vs) : g < w.heap.size := (Array.getElem?_eq_some_iff.1 h).1
theorem intInfo : (Try.prog.info? 3).map (fun i => (i.zero, i.size, i.bytes)) = some (some (.int .i64 0), 1, 8) := by kernel_rfl
theorem make_ints (n : Nat) (hn : n ≤ 1000000) (W : World) :
    (Instr.makeSlice 22 (.int .i64 (n : Int)) (.int .i64 (n : Int))).run Try.prog W = .ok (.slice (some ⟨W.heap.size, 0, none⟩) n n) (W.alloc (.cells (madeCells #[.int .i64 0] n) 3)) := by
  obtain ⟨i0, hi, hz0, hz1, hz2⟩ := info_parts intInfo
  have h := run_make (P := Try.prog) W 22 3 i0 (.int .i64 0) Try.underlying22 hi hz0 .i64 .i64 n n (by omega) (Int.le_refl _) (by rw [hz2]; omega) (by omega)
  simp only [Int.toNat_natCast, hz1, Nat.mul_one] at h
  exact h
theorem made_ints (w : World) (n : Nat) : IntBlock (w.alloc (.cells (madeCells #[Value.int .i64 0] n) 3)) w.heap.size (List.replicate n 0) := by
  have e : madeCells #[Value.int .i64 0] n = ((List.replicate n (0 : Int)).map ic).toArray := by
    apply Array.toList_inj.1
    rw [toList_madeCells_one]
    simp [ic]
  unfold IntBlock
  rw [e]
  exact heap_alloc_new w _

set_option maxHeartbeats 1000000 in
theorem values_no (A : Option Addr) (l c : Nat) (zs : List Int) (B : Nat) (w : World) (hl : zs.length = l) (hm : l ≤ 9223372036854775807) (hb : Cells w B A (zs.map ic)) (hr : caR zs = false) :
    Calls Try.prog 55 #[.slice A l c] w fun e w' => e = .returned (.tuple #[.slice none 0 0, .int .i64 13]) ∧ w = w' := by
  have HR := Lib.hid (caRight_any A l c zs B w hl hm hb)
  rw [hr] at HR
  clear hr hb hl
  go_enter Try.func55, Try.ntmps55
  go_wp2_with (go_at_call 80; refine HR.out.mono ?_; rintro e w' ⟨rfl, rfl⟩)
  go_ret2
  exact ⟨rfl, rfl⟩

set_option maxHeartbeats 1000000 in
theorem values_any (A : Option Addr) (l c : Nat) (zs : List Int) (B : Nat) (w : World) (hl : zs.length = l) (hm : l ≤ 1000) (hb : Cells w B A (zs.map ic)) (hB : B ≤ w.heap.size) (hr : caR zs = true) :
    Calls Try.prog 55 #[.slice A l c] w fun e w' => e = .returned (.tuple #[.slice (some ⟨w.heap.size, 0, none⟩) l l, .int .i64 0]) ∧ IntBlock w' w.heap.size (caV zs) ∧ Below w.heap.size w w' := by
  have HR := Lib.hid (caRight_any A l c zs B w hl (by omega) hb)
  rw [hr] at HR
  have HC := Lib.hid hb
  have HL := Lib.hid hl
  have HB := Lib.hid hB
  have mk0 := make_ints l (by omega)
  have HLEN : Hid ((ordL zs).length ≤ 15000) := by
    have := whole_len zs 15
    show (whole zs 15).length ≤ _
    omega
  clear hr hb hl hB
  obtain ⟨W1, hW1⟩ : ∃ W1, w.alloc (.cells (madeCells #[.int .i64 0] l) 3) = W1 := ⟨_, rfl⟩
  have hz1 : W1.heap.size = w.heap.size + 1 := by rw [← hW1]; simp
  have HBL := Lib.hid (show IntBlock W1 w.heap.size (List.replicate l 0) by rw [← hW1]; exact made_ints w l)
  have HB1 := Lib.hid (show Below w.heap.size w W1 by rw [← hW1]; exact (Below.refl _ w).alloc (Nat.le_refl _) _)
  have HORD := Lib.hid (order_any A l c zs B W1 HL.out hm (HC.out.below HB1.out HB.out) (by have := HB.out; omega))
  go_enter Try.func55, Try.ntmps55
  go_wp2_with (first | (go_at_call 80; refine HR.out.mono ?_; rintro e w' ⟨rfl, rfl⟩) | (go_at_call 58; refine HORD.out.mono ?_; rintro e w2 ⟨A2, c2, rfl, ho, hb2⟩; have HO := Lib.hid ho; have HB2 := Lib.hid hb2; clear ho hb2))
  go_loopg [5, 6, 18] (ordL zs).length (fun gk x a i wr => ∃ (k : Nat) (X a0 : Nat) (vs : List Int), k + gk = (ordL zs).length ∧ i = .int .i64 k ∧ vst zs ((ordL zs).take k) = (X, a0, vs) ∧ x = .int .i64 ((X : Int) - 1) ∧ a = .int .i64 a0 ∧
    IntBlock wr w.heap.size vs ∧ Mod (oneB w.heap.size) w2 wr)
  case atStart =>
    refine ⟨0, 0, 0, List.replicate zs.length 0, by omega, rfl, rfl, rfl, rfl, ?_, Mod.refl _ _⟩
    rw [HL.out]
    have := HB2.out.block w.heap.size (by omega)
    unfold IntBlock
    rw [this]
    exact HBL.out
  case round =>
    obtain ⟨k, X, a0, vs, hk, rfl, hst, rfl, rfl, hib, hmod⟩ := hrel
    have hol := HLEN.out
    obtain ⟨hvi, hle⟩ := vi_take zs k (by omega)
    rw [hst] at hvi hle
    by_cases h : k < (ordL zs).length
    · obtain ⟨s, hs⟩ : ∃ s, (ordL zs)[k]? = some s := ⟨_, List.getElem?_eq_getElem h⟩
      obtain ⟨n, hn, hn1, hn15⟩ := whole_mem (mem_get hs)
      have ha : a0 ≤ n := hle s n hs hn
      have hv1 := hvi.small hn15 ha
      have hv0 := hvi.small0
      have hsl := (List.getElem?_eq_some_iff.1 hn).1
      rw [List.length_take] at hv1 hv0
      have hV5 : X * 2 ^ (n - a0) ≤ 500000000 := by have := HLEN.out; omega
      have hX5 : X ≤ 500000000 := by have := HLEN.out; omega
      clear hv1 hv0
      have HVI := Lib.hid hvi
      have HST : Hid (vst zs ((ordL zs).take (k + 1)) = (X * 2 ^ (n - a0) + 1, n, vs.set s ((X * 2 ^ (n - a0) : Nat) : Int))) := by
        show _ = _
        rw [take_snoc' hs, vst_snoc, hst]
        simp only [vstep, getD_of hn, Int.toNat_natCast]
      have HOW := Lib.hid (own_keep HO.out hmod (fun q hq e => by have := own_base HO.out q hq; have := e; unfold oneB at this; omega))
      obtain ⟨b2, o2, rfl, hb2, hc2⟩ := (Cells.of_own HOW.out) (by rw [List.length_map]; omega)
      have c1 : wr.cell? ⟨b2, o2 + k, none⟩ = some (.int .i64 (s : Int)) := hc2 k _ (by rw [List.getElem?_map, hs]; rfl)
      have HCW := Lib.hid (((HC.out.more HB.out).below (HB1.out) (Nat.le_refl _)).below (HB2.out.mono (by omega)) (Nat.le_refl _) |>.mod hmod (by have := HB2.out.size; omega) (fun q hq => by unfold oneB at hq; omega))
      obtain ⟨b, o, rfl, hbB, hc⟩ := HCW.out (by rw [List.length_map]; omega)
      have c0 : wr.cell? ⟨b, o + s, none⟩ = some (.int .i64 (n : Int)) := hc s _ (by rw [List.getElem?_map, hn]; rfl)
      have hf := ib_free hib s
      obtain ⟨y, hy⟩ : ∃ y, vs[s]? = some y := ⟨_, List.getElem?_eq_getElem (by rw [hvi.len]; exact hsl)⟩
      have cy := ib_cell hib hy
      have HIB := Lib.hid hib
      have HMOD := Lib.hid hmod
      have hsl' : s < l := by have := HL.out; omega
      clear hc hc2 hib hmod hs hn hst hvi hle hy
      obtain ⟨Q, hQ⟩ : ∃ Q, 2 ^ (n - a0) = Q := ⟨_, rfl⟩
      have hq : (2 : Int) ^ (n - a0) = (Q : Int) := by
        rw [← hQ, Int.natCast_pow]
        rfl
      have hve : (X : Int) * (Q : Int) = ((X * 2 ^ (n - a0) : Nat) : Int) := by rw [hQ, Int.natCast_mul]
      clear hQ
      generalize X * 2 ^ (n - a0) = V at *
      go_wp2
      go_roundg (gk - 1)
      case measure => omega
      case rel => exact ⟨k + 1, V + 1, n, vs.set s (V : Int), by omega, by go_num, HST.out, by go_num, rfl, ib_set HIB.out s _, HMOD.out.set _ _ (.inl rfl)⟩
    · obtain rfl : k = (ordL zs).length := by omega
      have hcv : vs = caV zs := by
        have := hst
        rw [List.take_length] at this
        unfold caV
        rw [this]
      subst hcv
      go_wp2
      go_ret2
      exact ⟨rfl, hib, hmod.below ((HB1.out.trans (HB2.out.mono (by omega)))) (by have := HB2.out.size; omega) (fun q hq => by unfold oneB at hq; omega)⟩
theorem pow_snoc (a j : Nat) (h : a ≤ j) : 2 ^ (j + 1 - a) = 2 ^ (j - a) * 2 := by rw [show j + 1 - a = (j - a) + 1 by omega, Nat.pow_succ]
set_option maxHeartbeats 1000000 in
theorem ref8Values_any (A : Option Addr) (l c : Nat) (zs : List Int) (B : Nat) (w : World) (hl : zs.length = l) (hm : l ≤ 1000) (hb : Cells w B A (zs.map ic)) (hB : B ≤ w.heap.size) :
    Calls Try.prog 31 #[.slice A l c] w fun e w' => e = .returned (.slice (some ⟨w.heap.size, 0, none⟩) l l) ∧ IntBlock w' w.heap.size (caV zs) ∧ Below w.heap.size w w' := by
  have HC := Lib.hid (hb.more hB)
  have HL := Lib.hid hl
  have mk0 := make_ints l (by omega)
  clear hb hl
  obtain ⟨W1, hW1⟩ : ∃ W1, w.alloc (.cells (madeCells #[.int .i64 0] l) 3) = W1 := ⟨_, rfl⟩
  have HBL := Lib.hid (show IntBlock W1 w.heap.size (List.replicate l 0) by rw [← hW1]; exact made_ints w l)
  have HB1 := Lib.hid (show Below w.heap.size w W1 by rw [← hW1]; exact (Below.refl _ w).alloc (Nat.le_refl _) _)
  go_enter Try.func31, Try.ntmps31
  go_wp2
  go_loopg [4, 5, 6] 15 (fun gk x a i wr => ∃ (n X a0 : Nat) (vs : List Int), n + gk = 16 ∧ 1 ≤ n ∧ i = .int .i64 n ∧ vst zs (whole zs (n - 1)) = (X, a0, vs) ∧ VI zs (whole zs (n - 1)) (X, a0, vs) ∧ a0 ≤ n ∧ x = .int .i64 X ∧ a = .int .i64 a0 ∧
    IntBlock wr w.heap.size vs ∧ Below w.heap.size w wr)
  case atStart =>
    refine ⟨1, 0, 0, List.replicate zs.length 0, by omega, Nat.le_refl _, rfl, rfl, VI.start zs, Nat.zero_le _, rfl, rfl, ?_, HB1.out⟩
    rw [HL.out]
    exact HBL.out
  case round =>
    obtain ⟨n, X, a0, vs, hn, hn1, rfl, hst, hvi, han, rfl, rfl, hib, hbe⟩ := hrel
    by_cases h : n ≤ 15
    · have hd : decide ((n : Int) ≤ 15) = true := by simp; omega
      obtain ⟨G, hG⟩ : ∃ G, gk = G := ⟨_, rfl⟩
      rw [hG] at hn
      have HST := Lib.hid hst
      have HVI := Lib.hid hvi
      have HIB := Lib.hid hib
      have HBE := Lib.hid hbe
      clear hst hvi hib hbe
      go_wp2
      go_loopg [4, 5, 7] l (fun gk x a i w2 => ∃ (k X a0 : Nat) (vs : List Int), k + gk = l ∧ i = .int .i64 k ∧ vst zs (ordN zs n k) = (X, a0, vs) ∧ VI zs (ordN zs n k) (X, a0, vs) ∧ a0 ≤ n ∧ x = .int .i64 X ∧ a = .int .i64 a0 ∧
        IntBlock w2 w.heap.size vs ∧ Below w.heap.size w w2)
      case atStart => exact ⟨0, X, a0, vs, by omega, rfl, by rw [ordN_zero]; exact HST.out, by rw [ordN_zero]; exact HVI.out, han, rfl, rfl, HIB.out, HBE.out⟩
      case round =>
        clear HST HVI HIB HBE han
        obtain ⟨k, X, a0, vs, hk, rfl, hst, hvi, han, rfl, rfl, hib, hbe⟩ := hrel
        by_cases hkl : k < l
        · obtain ⟨x, hx⟩ : ∃ x, zs[k]? = some x := ⟨_, List.getElem?_eq_getElem (by have := HL.out; omega)⟩
          obtain ⟨b, o, rfl, hbB, hc⟩ := (HC.out.below hbe (Nat.le_refl _)) (by rw [List.length_map, HL.out]; omega)
          have c0 : wr.cell? ⟨b, o + k, none⟩ = some (.int .i64 x) := hc k _ (by rw [List.getElem?_map, hx]; rfl)
          by_cases he : x = n
          · have hde : (x != (n : Int)) = false := by simp [he]
            subst he
            have hov := ordN_len zs n k hn1 h (by have := HL.out; omega)
            have hv1 := hvi.small h han
            rw [HL.out] at hov
            have hV5 : X * 2 ^ (n - a0) ≤ 500000000 := by omega
            have HS : Hid (vst zs (ordN zs n (k + 1)) = (X * 2 ^ (n - a0) + 1, n, vs.set k ((X * 2 ^ (n - a0) : Nat) : Int))) := by
              show _ = _
              rw [ordN_yes hx, vst_snoc, hst]
              simp only [vstep, getD_of hx, Int.toNat_natCast]
            have HV2 := Lib.hid (hvi.snoc hx hn1 h han)
            rw [← ordN_yes hx, ← hst, ← vst_snoc, ← ordN_yes hx, HS.out] at HV2
            obtain ⟨y, hy⟩ : ∃ y, vs[k]? = some y := ⟨_, List.getElem?_eq_getElem (by rw [hvi.len]; have := HL.out; omega)⟩
            have cy := ib_cell hib hy
            have hf := ib_free hib k
            have HIB := Lib.hid hib
            have HBE := Lib.hid hbe
            have HZ := Lib.hid hvi.z
            clear hc hx hib hbe hst hvi hy hov hv1
            obtain ⟨G2, hG2⟩ : ∃ G2, gk = G2 := ⟨_, rfl⟩
            rw [hG2] at hk
            go_wp2
            obtain ⟨V, hV⟩ : ∃ V, X * 2 ^ (n - a0) = V := ⟨_, rfl⟩
            rw [hV] at hV5 HS HV2
            go_loopg [4, 5] (n - a0) (fun gk x a w3 => ∃ j P : Nat, a0 ≤ j ∧ j ≤ n ∧ gk = n - j ∧ X * 2 ^ (j - a0) = P ∧ x = .int .i64 P ∧ a = .int .i64 j ∧ w3 = wr)
            case atStart => exact ⟨a0, X, Nat.le_refl _, han, rfl, by rw [Nat.sub_self, Nat.pow_zero, Nat.mul_one], rfl, rfl, rfl⟩
            case round =>
              obtain ⟨j, P, haj, hjn, hgk, hP, rfl, rfl, rfl⟩ := hrel
              have hPV : P ≤ V := by
                rw [← hP, ← hV]
                exact Nat.mul_le_mul_left _ (Nat.pow_le_pow_right (by decide) (by omega))
              by_cases hj0 : j = 0
              · have hPe : P = V := by
                  have : X = 0 := HZ.out (by omega)
                  rw [← hP, ← hV, this, Nat.zero_mul, Nat.zero_mul]
                subst hPe
                obtain rfl : a0 = 0 := by omega
                subst hj0
                clear hP hV
                go_wp2
                go_roundg (G2 - 1)
                case measure => omega
                case rel => exact ⟨k + 1, P + 1, _, vs.set k (P : Int), by omega, by go_num, HS.out, HV2.out, Nat.le_refl _, by go_num, rfl, ib_set HIB.out k _, HBE.out.setCell (Nat.le_refl _) _⟩
              · by_cases hjl : j < n
                · have HP2 : Hid (X * 2 ^ (j + 1 - a0) = P * 2) := by show _ = _; rw [pow_snoc a0 j haj, ← Nat.mul_assoc, hP]
                  have hP5 : P ≤ 500000000 := by omega
                  clear hP hV
                  go_wp2
                  go_roundg (n - (j + 1))
                  case measure => omega
                  case rel => exact ⟨j + 1, P * 2, by omega, by omega, rfl, HP2.out, by go_num, by go_num, rfl⟩
                · obtain rfl : j = n := by omega
                  have hPe : P = V := by rw [← hP, ← hV]
                  subst hPe
                  clear hP hV
                  go_wp2
                  go_roundg (G2 - 1)
                  case measure => omega
                  case rel => exact ⟨k + 1, P + 1, _, vs.set k (P : Int), by omega, by go_num, HS.out, HV2.out, Nat.le_refl _, by go_num, rfl, ib_set HIB.out k _, HBE.out.setCell (Nat.le_refl _) _⟩
          · have hde : (x != (n : Int)) = true := by simp [he]
            have HS := Lib.hid (ordN_no hx he)
            have HST := Lib.hid hst
            have HVI := Lib.hid hvi
            have HIB := Lib.hid hib
            have HBE := Lib.hid hbe
            clear he hc hx hib hbe hst hvi
            go_wp2
            go_roundg (gk - 1)
            case measure => omega
            case rel => exact ⟨k + 1, X, a0, vs, by omega, by go_num, by rw [HS.out]; exact HST.out, by rw [HS.out]; exact HVI.out, han, rfl, rfl, HIB.out, HBE.out⟩
        · obtain rfl : k = l := by omega
          have HW : Hid (ordN zs n k = whole zs n) := by show _ = _; rw [← HL.out]; exact ordN_all zs n hn1
          rw [HW.out] at hst hvi
          have HST := Lib.hid hst
          have HVI := Lib.hid hvi
          have HIB := Lib.hid hib
          have HBE := Lib.hid hbe
          clear hib hbe hst hvi
          go_wp2
          go_roundg (G - 1)
          case measure => omega
          case rel => exact ⟨n + 1, X, a0, vs, by omega, by omega, by go_num, HST.out, HVI.out, by omega, rfl, rfl, HIB.out, HBE.out⟩
    · obtain rfl : n = 16 := by omega
      have hcv : vs = caV zs := by
        have := hst
        unfold caV ordL
        rw [show 15 = 16 - 1 from rfl, this]
      subst hcv
      go_wp2
      go_ret
      exact ⟨rfl, hib, hbe⟩
end Go.Proofs.Ytbpgaaecifnohaa
/- Layer 8: a code in memory: New, Len, Symbols; Ints of the reference. -/
namespace Go.Proofs.Ytbpgaaecifnohaa
open Go.RowKit

def isMax (zs : List Int) (m : Int) : Prop := (∀ x ∈ zs, x ≤ m) ∧ m ∈ zs
set_option maxHeartbeats 1000000 in
theorem ref7Ints_any (A1 A2 : Option Addr) (l c1 c2 : Nat) (xs ys : List Int) (B : Nat) (w : World) (hx : xs.length = l) (hy : ys.length = l) (hm : l ≤ 1099511627776) (h1 : Cells w B A1 (xs.map ic)) (h2 : Cells w B A2 (ys.map ic)) (he : xs = ys) :
    Calls Try.prog 17 #[.slice A1 l c1, .slice A2 l c2] w fun e w' => e = .returned (.bool true) ∧ ∃ m, w' = w.drewN m := by
  subst he
  have H1 := Lib.hid h1
  have H2 := Lib.hid h2
  have HL := Lib.hid hx
  clear h1 h2 hx hy
  go_enter Try.func17, Try.ntmps17
  go_wp2
  go_loopg [5] l (fun gk i wr => ∃ k m : Nat, k + gk = l ∧ i = .int .i64 k ∧ wr = w.drewN m)
  case atStart => exact ⟨0, 0, by omega, rfl, rfl⟩
  case round =>
    obtain ⟨k, m, hk, rfl, rfl⟩ := hrel
    by_cases h : k < l
    · obtain ⟨x, hx⟩ : ∃ x, xs[k]? = some x := ⟨_, List.getElem?_eq_getElem (by have := HL.out; omega)⟩
      obtain ⟨b, o, rfl, hbB, hc⟩ := H1.out (by rw [List.length_map, HL.out]; omega)
      have c0 : w.cell? ⟨b, o + k, none⟩ = some (.int .i64 x) := hc k _ (by rw [List.getElem?_map, hx]; rfl)
      obtain ⟨b2, o2, rfl, hbB2, hc2⟩ := H2.out (by rw [List.length_map, HL.out]; omega)
      have c1 : w.cell? ⟨b2, o2 + k, none⟩ = some (.int .i64 x) := hc2 k _ (by rw [List.getElem?_map, hx]; rfl)
      have hxx : (x != x) = false := by simp
      clear hc hc2 hx
      go_upto_region 6 with (fail)
      go_region
      go_wp2
      go_roundg (gk - 1)
      case measure => omega
      case rel => exact ⟨k + 1, m + 1, by omega, by go_num, rfl⟩
    · obtain rfl : k = l := by omega
      go_wp2
      go_ret
      exact ⟨rfl, m, rfl⟩
set_option maxHeartbeats 1000000 in
theorem clone8_any (A : Option Addr) (l c : Nat) (zs : List Int) (B : Nat) (w : World) (hl : zs.length = l) (h1 : 1 ≤ l) (hm : l ≤ 1000) (hb : Cells w B A (zs.map ic)) (hB : B ≤ w.heap.size) :
    Calls Try.prog 56 #[.slice A l c] w fun e w' => ∃ A' c', e = .returned (.slice A' l c') ∧ w'.ownsRow w.heap.size 3 1 (.slice A' l c') l (zs.map ic) ∧ Below w.heap.size w w' := by
  have HC := Lib.hid hb
  have HL := Lib.hid hl
  have HONE : Hid (∀ u ∈ zs.map ic, u.oneCell' = true) := fun u hu => by
    obtain ⟨s, _, rfl⟩ := List.mem_map.1 hu
    rfl
  obtain ⟨b, o, rfl, hbB, hc⟩ := hb (by rw [List.length_map]; omega)
  obtain ⟨W1, hW1⟩ : ∃ W1, w.alloc (.cells #[] 3) = W1 := ⟨_, rfl⟩
  have HOWN := Lib.hid (show W1.ownsRow w.heap.size 3 1 (.slice (some ⟨w.heap.size, 0, none⟩) 0 0) 0 [] by rw [← hW1]; exact own_empty w _ (Nat.le_refl _))
  have HB1 := Lib.hid (show Below w.heap.size w W1 by rw [← hW1]; exact (Below.refl _ w).alloc (Nat.le_refl _) _)
  have HC1 := Lib.hid (HC.out.below (HB1.out.mono hB) (Nat.le_refl _))
  clear hc hbB hl
  have hnil := Lib.run_eql_slice_nil (P := Try.prog) w 22 3 (some ⟨b, o, none⟩) l c 0 0 Try.underlying22
  go_enter Try.func56, Try.ntmps56
  go_wp2_with (at_builtin; refine wpList_app _ intElem rfl (.tmp 5) (.tmp 6) rfl w.heap.size (.slice (some ⟨w.heap.size, 0, none⟩) 0 0) 0 _ rfl HOWN.out _ _ l c (zs.map ic) rfl (by rw [List.length_map, HL.out, Nat.mul_one]) HC1.out HONE.out (by unfold maxLen; omega) (by omega) HB1.out.size ?_; intro A3 c3 w3 hA; have HA := Lib.hid hA; clear hA)
  go_ret
  exact ⟨A3, c3, rfl, by have := HA.out.own; rwa [Nat.zero_add, List.nil_append] at this, HA.out.below HB1.out HB1.out.size (own_base HOWN.out)⟩
set_option maxHeartbeats 1000000 in
theorem max_any (A : Option Addr) (l c : Nat) (zs : List Int) (B : Nat) (w : World) (hl : zs.length = l) (h1 : 1 ≤ l) (hm : l ≤ 1099511627776) (hb : Cells w B A (zs.map ic)) :
    Calls Try.prog 81 #[.slice A l c] w fun e w' => ∃ m : Int, e = .returned (.int .i64 m) ∧ isMax zs m ∧ w = w' := by
  have HL := Lib.hid hl
  obtain ⟨b, o, rfl, hbB, hc⟩ := hb (by rw [List.length_map]; omega)
  obtain ⟨x, hx⟩ : ∃ x, zs[0]? = some x := ⟨_, List.getElem?_eq_getElem (show 0 < zs.length by omega)⟩
  have c0 : w.cell? ⟨b, o, none⟩ = some (.int .i64 x) := hc 0 _ (by rw [List.getElem?_map, hx]; rfl)
  have HX := Lib.hid hx
  have HC := Lib.hid hc
  have hd : decide ((l : Int) < 1) = false := decide_eq_false (by omega)
  clear hc hx hb hl
  go_enter Try.func81, Try.ntmps81
  go_wp2
  go_loopg [3, 4] l (fun gk v i wr => ∃ (k : Nat) (m : Int), k + gk = l + 1 ∧ 1 ≤ k ∧ k ≤ l ∧ i = .int .i64 k ∧ v = .int .i64 m ∧ isMax (zs.take k) m ∧ wr = w)
  case atStart => exact ⟨1, x, by omega, Nat.le_refl _, h1, rfl, rfl, by rw [take_snoc' HX.out]; simp [isMax], rfl⟩
  case round =>
    obtain ⟨k, m, hk, hk1, hkl, rfl, rfl, hmx, rfl⟩ := hrel
    clear c0
    by_cases h : k < l
    · obtain ⟨y, hy⟩ : ∃ y, zs[k]? = some y := ⟨_, List.getElem?_eq_getElem (by have := HL.out; omega)⟩
      have c1 : wr.cell? ⟨b, o + k, none⟩ = some (.int .i64 y) := HC.out k _ (by rw [List.getElem?_map, hy]; rfl)
      have HT : Hid (zs.take (k + 1) = zs.take k ++ [y]) := take_snoc' hy
      have HM := Lib.hid hmx
      clear hy hmx
      by_cases hc : m < y
      · have HN : Hid (isMax (zs.take (k + 1)) y) := by
          show isMax _ _
          rw [HT.out]
          refine ⟨fun z hz => ?_, by simp⟩
          rcases List.mem_append.1 hz with hz | hz
          · have := HM.out.1 z hz; omega
          · simp at hz; omega
        go_wp2
        go_roundg (gk - 1)
        case measure => omega
        case rel => exact ⟨k + 1, y, by omega, by omega, by omega, by go_num, by go_num, HN.out, rfl⟩
      · have HN : Hid (isMax (zs.take (k + 1)) m) := by
          show isMax _ _
          rw [HT.out]
          refine ⟨fun z hz => ?_, by simp [HM.out.2]⟩
          rcases List.mem_append.1 hz with hz | hz
          · exact HM.out.1 z hz
          · simp at hz; omega
        go_wp2
        go_roundg (gk - 1)
        case measure => omega
        case rel => exact ⟨k + 1, m, by omega, by omega, by omega, by go_num, by go_num, HN.out, rfl⟩
    · obtain rfl : k = l := by omega
      have ht : zs.take k = zs := List.take_of_length_le (by have := HL.out; omega)
      rw [ht] at hmx
      go_wp2
      go_ret
      exact ⟨m, rfl, hmx, rfl⟩
theorem longest_any (A : Option Addr) (l c : Nat) (zs : List Int) (B : Nat) (w : World) (hl : zs.length = l) (h1 : 1 ≤ l) (hm : l ≤ 1099511627776) (hb : Cells w B A (zs.map ic)) :
    Calls Try.prog 57 #[.slice A l c] w fun e w' => ∃ m : Int, e = .returned (.int .i64 m) ∧ isMax zs m ∧ w = w' := by
  have HM := Lib.hid (max_any A l c zs B w hl h1 hm hb)
  have hd : ((l : Int) == 0) = false := by simp; omega
  clear hb hl
  go_enter Try.func57, Try.ntmps57
  go_wp2_with (go_at_call 81; refine HM.out.mono ?_; rintro e w' ⟨m, rfl, hmx, rfl⟩)
  go_ret
  exact ⟨m, rfl, hmx, rfl⟩
end Go.Proofs.Ytbpgaaecifnohaa
