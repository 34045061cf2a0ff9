/- Layer 14: codec.Stream of rows of bytes. -/
import Derived.Test.YtnccbnadfgilaaaPcPc
import Derived.Deep.Cut
import Derived.Deep.DeepCutAuto
import Derived.Deep.LoopGhost
import Derived.BigQuiet
import Derived.RegionTactic
namespace Go.Proofs.Ytnccbnadfgilaaa
open Go.RowKit CrcP FieldP
attribute [local go_sem ↓] Go.wp_at_zero Go.wp_at_succ

/-- How many bytes the first rows have. -/
def sumP (ls : List PcV) : Nat := (ls.map fun x => x.1.length).sum
/-- The pieces of rows. -/
def pcsB (ls : List PcV) : List UInt8 := (ls.map fun x => pieceB x.1).flatten
theorem take_up {α : Type} {L : List α} {k : Nat} {x : α} (h : L[k]? = some x) : L.take (k + 1) = L.take k ++ [x] := by rw [List.take_add_one, h]; rfl
theorem sumP_up {ls : List PcV} {i : Nat} {x : PcV} (h : ls[i]? = some x) : sumP (ls.take (i + 1)) = sumP (ls.take i) + x.1.length := by
  unfold sumP
  rw [take_up h, List.map_append, List.sum_append]
  simp
theorem pcsB_up {ls : List PcV} {i : Nat} {x : PcV} (h : ls[i]? = some x) : pcsB (ls.take (i + 1)) = pcsB (ls.take i) ++ pieceB x.1 := by
  unfold pcsB
  rw [take_up h, List.map_append, List.flatten_append]
  simp
theorem sumP_le (ls : List PcV) (i : Nat) : sumP (ls.take i) ≤ sumP ls := by
  have h := List.take_append_drop i ls
  have : sumP ls = sumP (ls.take i) + sumP (ls.drop i) := by
    conv => lhs; rw [← h]
    unfold sumP
    rw [List.map_append, List.sum_append]
  omega
theorem pieceB_len (bs : List UInt8) : (pieceB bs).length ≤ bs.length + 2 := by
  unfold pieceB
  split
  · simp
  · rw [List.length_append, putN_length]; omega
theorem pcsB_len (ls : List PcV) : (pcsB ls).length ≤ sumP ls + 2 * ls.length := by
  induction ls with
  | nil => simp [pcsB, sumP]
  | cons x l ih =>
    have := pieceB_len x.1
    simp only [pcsB, sumP, List.map_cons, List.flatten_cons, List.length_append, List.sum_cons, List.length_cons] at ih ⊢
    omega
/-- The rows that aren't empty. -/
def neR (ls : List PcV) : List (List UInt8) := (ls.map (·.1)).filter fun r => decide (r ≠ [])
theorem neR_flat (ls : List PcV) : (neR ls).flatten = (ls.map (·.1)).flatten := by
  unfold neR
  induction ls with
  | nil => rfl
  | cons x l ih =>
    rw [List.map_cons, List.filter_cons]
    split
    · rw [List.flatten_cons, List.flatten_cons, ih]
    · rename_i h
      have hx : x.1 = [] := by simpa using h
      rw [List.flatten_cons, hx, List.nil_append, ih]
theorem pcL_stream : ∀ (ls : List PcV), (∀ x ∈ ls, x.1.length ≤ 65535) → ∀ k, (pcsB ls ++ [0, 0]).length < k → pcL k (pcsB ls ++ [0, 0]) = (neR ls, 0)
  | [], _, k, hk => by
    obtain ⟨k, rfl⟩ : ∃ q, k = q + 1 := ⟨k - 1, by omega⟩
    show pcL (k + 1) [0, 0] = _
    rw [pcL_end (by decide) (by decide)]
    rfl
  | x :: l, hx, k, hk => by
    have ih := pcL_stream l (fun y hy => hx y (by simp [hy]))
    have hx1 := hx x (by simp)
    by_cases h0 : x.1 = []
    · have e1 : pcsB (x :: l) = pcsB l := by unfold pcsB; rw [List.map_cons, List.flatten_cons]; unfold pieceB; rw [if_pos h0]; rfl
      have e2 : neR (x :: l) = neR l := by unfold neR; rw [List.map_cons, List.filter_cons, if_neg (by simp [h0])]
      rw [e1, e2]
      rw [e1] at hk
      exact ih k hk
    · obtain ⟨T, hT⟩ : ∃ T, pcsB l ++ [0, 0] = T := ⟨_, rfl⟩
      have e1 : pcsB (x :: l) ++ [0, 0] = putN x.1.length 2 ++ (x.1 ++ T) := by
        rw [← hT]
        unfold pcsB
        rw [List.map_cons, List.flatten_cons, pieceB, if_neg h0]
        simp
      have e2 : neR (x :: l) = x.1 :: neR l := by unfold neR; rw [List.map_cons, List.filter_cons, if_pos (by simp [h0])]
      rw [e1] at hk ⊢
      rw [hT] at ih
      have hp2 : (putN x.1.length 2).length = 2 := putN_length _ _
      rw [List.length_append, List.length_append, hp2] at hk
      obtain ⟨k, rfl⟩ : ∃ q, k = q + 1 := ⟨k - 1, by omega⟩
      have hpos : 1 ≤ x.1.length := by cases hh : x.1 with | nil => exact absurd hh h0 | cons => simp
      have t2 : (putN x.1.length 2 ++ (x.1 ++ T)).take 2 = putN x.1.length 2 := by rw [List.take_append_of_le_length (by omega), List.take_of_length_le (by omega)]
      have hv : val (putN x.1.length 2) = x.1.length := by rw [val_putN]; exact Nat.mod_eq_of_lt (by show _ < 65536; omega)
      have d2 : (putN x.1.length 2 ++ (x.1 ++ T)).drop 2 = x.1 ++ T := by rw [List.drop_append_of_le_length (by omega), List.drop_of_length_le (by omega), List.nil_append]
      have d3 : (putN x.1.length 2 ++ (x.1 ++ T)).drop (2 + x.1.length) = T := by rw [← List.drop_drop, d2, List.drop_append_of_le_length (Nat.le_refl _), List.drop_length, List.nil_append]
      rw [pcL_step (by rw [List.length_append, hp2]; omega) (by rw [t2, hv]; omega) (by rw [t2, hv, List.length_append, List.length_append, hp2]; omega), t2, hv, d2, d3, ih k (by omega), e2, List.take_append_of_le_length (Nat.le_refl _), List.take_length]
/-- What is streamed is all pieces, and the end. -/
theorem pcA_stream {ls : List PcV} (h : ∀ x ∈ ls, x.1.length ≤ 65535) : pcA (pcsB ls ++ [0, 0]) = (neR ls, 0) := pcL_stream ls h _ (Nat.lt_succ_self _)
theorem flat_sum (ls : List PcV) : (neR ls).flatten.length = sumP ls := by
  rw [neR_flat]
  unfold sumP
  rw [List.length_flatten, List.map_map]
  rfl
def pcC (x : PcV) : Value := .slice x.2.1 x.1.length x.2.2
/-- Rows of bytes that lie in memory. -/
structure RowsIn (w : World) (A : Option Addr) (ls : List PcV) : Prop where
  row : Cells w w.heap.size A (ls.map pcC)
  each : ∀ x ∈ ls, Bytes w w.heap.size x.2.1 x.1 ∧ x.1.length ≤ x.2.2
set_option maxRecDepth 100000 in
set_option maxHeartbeats 600000 in
theorem stream_any (A : Option Addr) (l c : Nat) (ls : List PcV) (w : World) (hl : ls.length = l) (hm : l ≤ 1000) (hr : RowsIn w A ls) (hs : sumP ls ≤ 65535) :
    Calls Try.prog 16 #[.slice A l c] w fun e w' => ∃ A' n c', e = .returned (.tuple #[.slice A' n c', .int .i64 0]) ∧ OwnY w' w.heap.size (.slice A' n c') n (pcsB ls ++ [0, 0]) ∧ Below w.heap.size w w' := by
  have HL := Lib.hid hl
  have HR := Lib.hid hr
  have HS := Lib.hid (fun i => sumP_le ls i)
  have hsl : sumP ls ≤ 65535 := hs
  have HPL := Lib.hid (fun i => pcsB_len (ls.take i))
  clear hl hr hs
  go_enter Try.func16, Try.ntmps16
  go_wp2
  go_loopg [4, 5, 10] l (fun gk sa sn si wr => ∃ (i n m c' : Nat) (A' : Option Addr), i + gk = l ∧ si = .int .i64 (i : Int) ∧ sn = .int .i64 (n : Int) ∧ sa = .slice A' m c' ∧ n = sumP (ls.take i) ∧ OwnB wr w.heap.size 5 (.slice A' m c') m (pcsB (ls.take i)) ∧ Below w.heap.size w wr)
  case atStart => exact ⟨0, 0, 0, 0, none, by omega, rfl, rfl, rfl, by simp [sumP], World.ownsRow_nil _ _ _ _, Below.refl _ _⟩
  case round =>
    obtain ⟨i, n, m, c', A', hi, rfl, rfl, rfl, hn, hown, hbel⟩ := hrel
    have HO := Lib.hid hown
    have HB := Lib.hid hbel
    have HN := Lib.hid hn
    have hn2 : n ≤ 65535 := by have := HS.out i; omega
    have hm2 : m ≤ 70000 := by
      have h1 := hown.1
      rw [byteCells_length] at h1
      have h2 := HPL.out i
      have h3 := HS.out i
      have h4 : (ls.take i).length ≤ 1000 := by rw [List.length_take]; have := HL.out; omega
      omega
    clear hown hbel hn
    by_cases hil : i < l
    · obtain ⟨x, hx⟩ : ∃ x, ls[i]? = some x := ⟨_, List.getElem?_eq_getElem (by rw [HL.out]; exact hil)⟩
      obtain ⟨b, o, rfl, hbB, hcc⟩ := HR.out.row (by rw [List.length_map, HL.out]; omega)
      have ci : wr.cell? ⟨b, o + i, none⟩ = some (pcC x) := (HB.out.cell (p := ⟨b, o + i, none⟩) (by show b < _; omega)).trans (hcc i _ (by rw [List.getElem?_map, hx]; rfl))
      have hex := HR.out.each x (List.mem_of_getElem? hx)
      have HU := Lib.hid (sumP_up hx)
      have HPU := Lib.hid (pcsB_up hx)
      have HS1 := HS.out (i + 1)
      obtain ⟨r, A2, k2⟩ := x
      have hrl : n + r.length ≤ 65535 := by
        have h1 := HU.out
        have h2 := HN.out
        dsimp only at h1
        omega
      have HPC := Lib.hid (piece_any A2 r.length k2 w.heap.size r wr rfl (by omega) hex.2 (hex.1.below HB.out (Nat.le_refl _)) HB.out.size)
      have ci2 : wr.cell? ⟨b, o + i, none⟩ = some (.slice A2 r.length k2) := ci
      have u1 : ¬ 65536 - (n : Int) < (r.length : Int) := by omega
      obtain ⟨rl, hrl2⟩ : ∃ rl, r.length = rl := ⟨_, rfl⟩
      have HN2 : Hid (n + rl = sumP (ls.take (i + 1))) := by show _ = _; rw [HU.out, HN.out, ← hrl2]
      rw [hrl2] at ci2 u1 hrl HPC
      have hpl := pieceB_len r
      clear hcc ci hx hex HS1
      go_wp2_with (first
        | (go_at_call 34; refine HPC.out.mono ?_; rintro e w2 ⟨A3, n3, c3, rfl, ho3, hb3⟩; have HO3 := Lib.hid ho3; have HB3 := Lib.hid (HB.out.trans (hb3.mono HB.out.size)); have HO2 : Hid (OwnB w2 w.heap.size 5 (.slice A' m c') m (pcsB (ls.take i))) := own_keep HO.out (Mod.of_below hb3) (fun _ _ h => h); have hn3 : n3 ≤ 65600 := (by have h1 := ho3.1; rw [byteCells_length] at h1; omega); have hl3 : (byteCells (pieceB r)).length = n3 := ho3.1; have HL3 := Lib.hid hl3; clear ho3 hb3 hl3)
        | (at_builtin; refine wpList_app _ byteElem rfl (.tmp 23) (.tmp 25) rfl w.heap.size (.slice A' m c') m (byteCells (pcsB (ls.take i))) rfl HO2.out w2.heap.size A3 n3 c3 (byteCells (pieceB r)) rfl (by rw [HL3.out, Nat.mul_one]) HO3.out.cells (byteCells_one _) (by unfold maxLen; omega) (by omega) HB3.out.size ?_; intro A6 c6 w6 hA; have HA := Lib.hid hA; clear hA))
      go_roundg (gk - 1)
      case measure => omega
      case rel =>
        refine ⟨i + 1, n + rl, m + n3, c6, A6, by omega, by go_num, by go_num, rfl, HN2.out, ?_, HA.out.below HB3.out HB3.out.size (own_base HO2.out)⟩
        rw [HPU.out]
        have := HA.out.own
        show World.ownsRow _ _ _ _ _ _ _
        rw [byteCells_append]
        exact this
    · obtain rfl : i = l := by omega
      have hall : ls.take i = ls := by rw [← HL.out, List.take_length]
      have HCP := Lib.hid (cput_any (.slice A' m c') m (pcsB (ls.take i)) 0 w.heap.size wr (by omega) (by omega) (OwnT.of HO.out) HB.out.size)
      rw [hall] at HCP
      clear hall
      go_wp2_with (go_at_call 35; refine HCP.out.mono ?_; rintro e w2 ⟨A3, c3, rfl, hap⟩; have HAP := Lib.hid hap; clear hap)
      go_ret2
      exact ⟨A3, m + 2, c3, rfl, HAP.out.own, HAP.out.below HB.out HB.out.size (own_base HO.out)⟩
end Go.Proofs.Ytnccbnadfgilaaa
