/- Layer 14: codec.Stream of rows of bytes. -/
import Derived.Test.YtaknladkodibaaaGreatMgQ21536
import Derived.Deep.Cut
import Derived.Deep.DeepCutAuto
import Derived.Deep.LoopGhost
import Derived.BigQuiet
import Derived.RegionTactic
import Derived.Test.YtaknladkodibaaaGreatMgQ21518
import Derived.Test.YtaknladkodibaaaGreatMgQ21523
import Derived.Test.YtaknladkodibaaaGreatMgQ21535
import Derived.IntWalk
import Derived.Outline
import Derived.Test.YtaknladkodibaaaGreatMgQ21509
import Derived.OpenShut
namespace Go.Proofs.YtaknladkodibaaaGreat
open Go.RowKit CrcP FieldP
attribute [local go_sem ↓] Go.wp_at_zero Go.wp_at_succ

/-- How many bytes the first rows have. -/
def sumP (ls : List PcV) : Nat := (ls.map fun x => x.1.length).sum
/-- The pieces of rows. -/
def pcsB (ls : List PcV) : List UInt8 := (ls.map fun x => pieceB x.1).flatten
theorem take_up {α : Type} {L : List α} {k : Nat} {x : α} (h : L[k]? = some x) : L.take (k + 1) = L.take k ++ [x] := by rw [List.take_add_one, h]; rfl
theorem sumP_up {ls : List PcV} {i : Nat} {x : PcV} (h : ls[i]? = some x) : sumP (ls.take (i + 1)) = sumP (ls.take i) + x.1.length := by
  unfold sumP
  rw [take_up h, List.map_append, List.sum_append]
  simp
theorem pcsB_up {ls : List PcV} {i : Nat} {x : PcV} (h : ls[i]? = some x) : pcsB (ls.take (i + 1)) = pcsB (ls.take i) ++ pieceB x.1 := by
  unfold pcsB
  rw [take_up h, List.map_append, List.flatten_append]
  simp
theorem sumP_le (ls : List PcV) (i : Nat) : sumP (ls.take i) ≤ sumP ls := by
  have h := List.take_append_drop i ls
  have : sumP ls = sumP (ls.take i) + sumP (ls.drop i) := by
    conv => lhs; rw [← h]
    unfold sumP
    rw [List.map_append, List.sum_append]
  omega
theorem pieceB_len (bs : List UInt8) : (pieceB bs).length ≤ bs.length + 2 := by
  unfold pieceB
  split
  · simp
  · rw [List.length_append, putN_length]; omega
theorem pcsB_len (ls : List PcV) : (pcsB ls).length ≤ sumP ls + 2 * ls.length := by
  induction ls with
  | nil => simp [pcsB, sumP]
  | cons x l ih =>
    have := pieceB_len x.1
    simp only [pcsB, sumP, List.map_cons, List.flatten_cons, List.length_append, List.sum_cons, List.length_cons] at ih ⊢
    omega
def pcC (x : PcV) : Value := .slice x.2.1 x.1.length x.2.2
/-- Rows of bytes that lie in memory. -/
structure RowsIn (w : World) (A : Option Addr) (ls : List PcV) : Prop where
  row : Cells w w.heap.size A (ls.map pcC)
  each : ∀ x ∈ ls, Bytes w w.heap.size x.2.1 x.1 ∧ x.1.length ≤ x.2.2
set_option maxRecDepth 100000 in
set_option maxHeartbeats 600000 in
theorem stream_any (A : Option Addr) (l c : Nat) (ls : List PcV) (w : World) (hl : ls.length = l) (hm : l ≤ 1000) (hr : RowsIn w A ls) (hs : sumP ls ≤ 65535) :
    Calls Tryz.prog 7 #[.slice A l c] w fun e w' => ∃ A' n c', e = .returned (.tuple #[.slice A' n c', .int .i64 0]) ∧ OwnY w' w.heap.size (.slice A' n c') n (pcsB ls ++ [0, 0]) ∧ Below w.heap.size w w' := by
  have HL := Lib.hid hl
  have HR := Lib.hid hr
  have HS := Lib.hid (fun i => sumP_le ls i)
  have hsl : sumP ls ≤ 65535 := hs
  have HPL := Lib.hid (fun i => pcsB_len (ls.take i))
  clear hl hr hs
  go_enter Tryz.func7, Tryz.ntmps7
  go_wp2
  go_loopg [4, 5, 10] l (fun gk sa sn si wr => ∃ (i n m c' : Nat) (A' : Option Addr), i + gk = l ∧ si = .int .i64 (i : Int) ∧ sn = .int .i64 (n : Int) ∧ sa = .slice A' m c' ∧ n = sumP (ls.take i) ∧ OwnB wr w.heap.size 5 (.slice A' m c') m (pcsB (ls.take i)) ∧ Below w.heap.size w wr)
  case atStart => exact ⟨0, 0, 0, 0, none, by omega, rfl, rfl, rfl, by simp [sumP], World.ownsRow_nil _ _ _ _, Below.refl _ _⟩
  case round =>
    obtain ⟨i, n, m, c', A', hi, rfl, rfl, rfl, hn, hown, hbel⟩ := hrel
    have HO := Lib.hid hown
    have HB := Lib.hid hbel
    have HN := Lib.hid hn
    have hn2 : n ≤ 65535 := by have := HS.out i; omega
    have hm2 : m ≤ 70000 := by
      have h1 := hown.1
      rw [byteCells_length] at h1
      have h2 := HPL.out i
      have h3 := HS.out i
      have h4 : (ls.take i).length ≤ 1000 := by rw [List.length_take]; have := HL.out; omega
      omega
    clear hown hbel hn
    by_cases hil : i < l
    · obtain ⟨x, hx⟩ : ∃ x, ls[i]? = some x := ⟨_, List.getElem?_eq_getElem (by rw [HL.out]; exact hil)⟩
      obtain ⟨b, o, rfl, hbB, hcc⟩ := HR.out.row (by rw [List.length_map, HL.out]; omega)
      have ci : wr.cell? ⟨b, o + i, none⟩ = some (pcC x) := (HB.out.cell (p := ⟨b, o + i, none⟩) (by show b < _; omega)).trans (hcc i _ (by rw [List.getElem?_map, hx]; rfl))
      have hex := HR.out.each x (List.mem_of_getElem? hx)
      have HU := Lib.hid (sumP_up hx)
      have HPU := Lib.hid (pcsB_up hx)
      have HS1 := HS.out (i + 1)
      obtain ⟨r, A2, k2⟩ := x
      have hrl : n + r.length ≤ 65535 := by
        have h1 := HU.out
        have h2 := HN.out
        dsimp only at h1
        omega
      have HPC := Lib.hid (piece_any A2 r.length k2 w.heap.size r wr rfl (by omega) hex.2 (hex.1.below HB.out (Nat.le_refl _)) HB.out.size)
      have ci2 : wr.cell? ⟨b, o + i, none⟩ = some (.slice A2 r.length k2) := ci
      have u1 : ¬ 65536 - (n : Int) < (r.length : Int) := by omega
      obtain ⟨rl, hrl2⟩ : ∃ rl, r.length = rl := ⟨_, rfl⟩
      have HN2 : Hid (n + rl = sumP (ls.take (i + 1))) := by show _ = _; rw [HU.out, HN.out, ← hrl2]
      rw [hrl2] at ci2 u1 hrl HPC
      have hpl := pieceB_len r
      clear hcc ci hx hex HS1
      go_wp2_with (first
        | (go_at_call 6; refine HPC.out.mono ?_; rintro e w2 ⟨A3, n3, c3, rfl, ho3, hb3⟩; have HO3 := Lib.hid ho3; have HB3 := Lib.hid (HB.out.trans (hb3.mono HB.out.size)); have HO2 : Hid (OwnB w2 w.heap.size 5 (.slice A' m c') m (pcsB (ls.take i))) := own_keep HO.out (Mod.of_below hb3) (fun _ _ h => h); have hn3 : n3 ≤ 65600 := (by have h1 := ho3.1; rw [byteCells_length] at h1; omega); have hl3 : (byteCells (pieceB r)).length = n3 := ho3.1; have HL3 := Lib.hid hl3; clear ho3 hb3 hl3)
        | (at_builtin; refine wpList_app _ byteElem rfl (.tmp 23) (.tmp 25) rfl w.heap.size (.slice A' m c') m (byteCells (pcsB (ls.take i))) rfl HO2.out w2.heap.size A3 n3 c3 (byteCells (pieceB r)) rfl (by rw [HL3.out, Nat.mul_one]) HO3.out.cells (byteCells_one _) (by unfold maxLen; omega) (by omega) HB3.out.size ?_; intro A6 c6 w6 hA; have HA := Lib.hid hA; clear hA))
      go_roundg (gk - 1)
      case measure => omega
      case rel =>
        refine ⟨i + 1, n + rl, m + n3, c6, A6, by omega, by go_num, by go_num, rfl, HN2.out, ?_, HA.out.below HB3.out HB3.out.size (own_base HO2.out)⟩
        rw [HPU.out]
        have := HA.out.own
        show World.ownsRow _ _ _ _ _ _ _
        rw [byteCells_append]
        exact this
    · obtain rfl : i = l := by omega
      have hall : ls.take i = ls := by rw [← HL.out, List.take_length]
      have HCP := Lib.hid (cput_any (.slice A' m c') m (pcsB (ls.take i)) 0 w.heap.size wr (by omega) (by omega) (OwnT.of HO.out) HB.out.size)
      rw [hall] at HCP
      clear hall
      go_wp2_with (go_at_call 12; refine HCP.out.mono ?_; rintro e w2 ⟨A3, c3, rfl, hap⟩; have HAP := Lib.hid hap; clear hap)
      go_ret2
      exact ⟨A3, m + 2, c3, rfl, HAP.out.own, HAP.out.below HB.out HB.out.size (own_base HO.out)⟩
end Go.Proofs.YtaknladkodibaaaGreat
/- Layer 14: rows that lie below; what a slice of the call's own has room for. -/
namespace Go.Proofs.YtaknladkodibaaaGreat
open Go.RowKit CrcP FieldP

theorem RowsIn.belowS {w V : World} {A : Option Addr} {ls : List PcV} (h : RowsIn w A ls) (hV : Below w.heap.size w V) : RowsIn V A ls :=
  ⟨(Cells.below h.row hV (Nat.le_refl _)).more hV.size, fun x hx => ⟨(Cells.below (h.each x hx).1 hV (Nat.le_refl _)).more hV.size, (h.each x hx).2⟩⟩
end Go.Proofs.YtaknladkodibaaaGreat
/- Layer 14: what is too much to stream. -/
namespace Go.Proofs.YtaknladkodibaaaGreat
open Go.RowKit CrcP FieldP
attribute [local go_sem ↓] Go.wp_at_zero Go.wp_at_succ

set_option maxRecDepth 100000 in
set_option maxHeartbeats 600000 in
theorem stream_big (A A1 A2 : Option Addr) (c c1 c2 : Nat) (bs : List UInt8) (w : World) (hr : Cells w w.heap.size A [.slice A1 65536 c1, .slice A2 1 c2]) (hb : Bytes w w.heap.size A1 bs) (hl : bs.length = 65536) (hc : 65536 ≤ c1) :
    Calls Tryz.prog 7 #[.slice A 2 c] w fun e w' => e = .returned (.tuple #[.slice none 0 0, .int .i64 5]) ∧ Below w.heap.size w w' := by
  have HR := Lib.hid hr
  have HP := Lib.hid (piece_wide A1 65536 c1 w.heap.size bs w hl (by decide) (by decide) hc hb (Nat.le_refl _))
  clear hr hb hl
  go_enter Tryz.func7, Tryz.ntmps7
  go_wp2
  go_loopg [4, 5, 10] 2 (fun gk sa sn si wr => (gk = 2 ∧ si = .int .i64 0 ∧ sn = .int .i64 0 ∧ sa = .slice none 0 0 ∧ w = wr) ∨ (gk = 1 ∧ si = .int .i64 1 ∧ sn = .int .i64 65536 ∧ ∃ (m c' : Nat) (A' : Option Addr) (ys : List UInt8), sa = .slice A' m c' ∧ m ≤ 140000 ∧ OwnB wr w.heap.size 5 (.slice A' m c') m ys ∧ Below w.heap.size w wr))
  case atStart => exact .inl ⟨rfl, rfl, rfl, rfl, rfl⟩
  case round =>
    obtain ⟨b, o, rfl, hbB, hcc⟩ := HR.out (by simp)
    have c0 : w.cell? ⟨b, o + 0, none⟩ = some (.slice A1 65536 c1) := hcc 0 _ rfl
    have cc1 : w.cell? ⟨b, o + 1, none⟩ = some (.slice A2 1 c2) := hcc 1 _ rfl
    rcases hrel with ⟨rfl, rfl, rfl, rfl, rfl⟩ | ⟨rfl, rfl, rfl, m, c', A', ys, rfl, hm, hown, hbel⟩
    · have c00 : w.cell? ⟨b, o, none⟩ = some (.slice A1 65536 c1) := c0
      clear hcc cc1
      go_wp2_with (first
        | (go_at_call 6; refine HP.out.mono ?_; rintro e w2 ⟨A3, n3, c3, zs, rfl, hn3, ho3, hb3⟩; have HO3 := Lib.hid ho3; have HB3 := Lib.hid hb3; have hl3 : (byteCells zs).length = n3 := ho3.1; have HL3 := Lib.hid hl3; clear ho3 hb3 hl3)
        | (at_builtin; refine wpList_app w2 byteElem rfl (.tmp 23) (.tmp 25) rfl w.heap.size (.slice none 0 0) 0 [] rfl (World.ownsRow_nil _ _ _ _) w2.heap.size A3 n3 c3 (byteCells zs) rfl (by rw [HL3.out, Nat.mul_one]) HO3.out.cells (byteCells_one _) (by unfold maxLen; omega) (by omega) HB3.out.size ?_; intro A6 c6 w6 hA; have HA := Lib.hid hA; clear hA))
      go_roundg 1
      case measure => omega
      case rel =>
        refine .inr ⟨rfl, by go_num, by go_num, n3, c6, A6, zs, rfl, hn3, ?_, (show App w2 w.heap.size 5 1 (.slice none 0 0) n3 _ w6 (.slice A6 n3 c6) from by rw [← Nat.zero_add n3]; exact HA.out).below HB3.out HB3.out.size (fun k hk => by cases hk)⟩
        have := HA.out.own
        rw [List.nil_append, Nat.zero_add] at this
        exact this
    · have HB := Lib.hid hbel
      have c11 : wr.cell? ⟨b, o + 1, none⟩ = some (.slice A2 1 c2) := (HB.out.cell (p := ⟨b, o + 1, none⟩) hbB).trans cc1
      clear hcc c0 cc1 hown hbel
      go_wp2
      exact bodyPost_ret (results_tmp2 rfl _ _ _) rfl ⟨rfl, HB.out⟩
end Go.Proofs.YtaknladkodibaaaGreat
/- Layer 14: the reference's Pieces of any bytes. -/
namespace Go.Proofs.YtaknladkodibaaaGreat
open Go.RowKit CrcP FieldP
attribute [local go_sem ↓] Go.wp_at_zero Go.wp_at_succ

theorem val2 {bs : List UInt8} {p : Nat} {x y : UInt8} (hx : bs[p]? = some x) (hy : bs[p + 1]? = some y) : val ((bs.drop p).take 2) = x.toNat + 256 * y.toNat := by
  have e : (bs.drop p).take 2 = [x, y] := by
    apply List.ext_getElem?
    intro i
    rw [List.getElem?_take]
    rcases i with _ | _ | i
    · rw [if_pos (by omega), List.getElem?_drop]; simpa using hx
    · rw [if_pos (by omega), List.getElem?_drop]; simpa using hy
    · rw [if_neg (by omega)]; rfl
  rw [e]
  simp [val]
/-- What Pieces answers. -/
def PcPost (bs : List UInt8) (w : World) (e : Ending) (w' : World) : Prop := ∃ (v : Value) (n cp : Nat) (A' : Option Addr), e = .returned (.tuple #[v, .int .i64 (pcA bs).2]) ∧ v = .slice A' n cp ∧ ((pcA bs).2 = 0 → OwnB w' w.heap.size 5 v n (pcA bs).1.flatten) ∧ ((pcA bs).2 ≠ 0 → v = .slice none 0 0) ∧ Below w.heap.size w w'
set_option maxRecDepth 100000 in
set_option maxHeartbeats 600000 in
theorem refPieces_any (A : Option Addr) (l c B : Nat) (bs : List UInt8) (w : World) (hl : bs.length = l) (hm : l ≤ 1000000) (hc : l ≤ c) (hb : Bytes w B A bs) (hB : B ≤ w.heap.size) :
    Calls Tryz.prog 9 #[.slice A l c] w fun e w' => PcPost bs w e w' := by
  have HL := Lib.hid hl
  have HB : Hid (∀ V, Below w.heap.size w V → Bytes V B A bs) := fun V hV => hb.below hV hB
  have HBS := Lib.hid hB
  clear hb hl hB
  go_enter Tryz.func9, Tryz.ntmps9
  go_wp2
  go_loopg [4, 5] l (fun gk sv pv wr => ∃ (p k n c' : Nat) (A' : Option Addr) (pre : List (List UInt8)), sv = .slice A' n c' ∧ pv = .int .i64 (p : Int) ∧ p ≤ l ∧ gk = l - p ∧ l - p < k ∧ pcA bs = (pre ++ (pcL k (bs.drop p)).1, (pcL k (bs.drop p)).2) ∧ OwnB wr w.heap.size 5 (.slice A' n c') n pre.flatten ∧ n ≤ p ∧ Below w.heap.size w wr)
  case atStart => exact ⟨0, l + 1, 0, 0, none, [], rfl, rfl, by omega, by omega, by omega, by unfold pcA; rw [HL.out]; rfl, World.ownsRow_nil _ _ _ _, Nat.le_refl _, Below.refl _ _⟩
  case round =>
    obtain ⟨p, k, n, c', A', pre, rfl, rfl, hp, hgk, hk, hpc, hown, hnp, hbel⟩ := hrel
    obtain ⟨k, rfl⟩ : ∃ k', k = k' + 1 := ⟨k - 1, by omega⟩
    have HPC := Lib.hid hpc
    have HO := Lib.hid hown
    have HBE := Lib.hid hbel
    have HGK := Lib.hid (show gk = l - p ∧ l - p < k + 1 from ⟨hgk, hk⟩)
    clear hpc hown hbel hgk hk
    by_cases hin : p + 2 ≤ l
    · obtain ⟨x, hx⟩ : ∃ x, bs[p]? = some x := ⟨_, List.getElem?_eq_getElem (by rw [HL.out]; omega)⟩
      obtain ⟨y, hy⟩ : ∃ y, bs[p + 1]? = some y := ⟨_, List.getElem?_eq_getElem (by rw [HL.out]; omega)⟩
      obtain ⟨b, o, rfl, hbB, hcc⟩ := (HB.out wr HBE.out) (by rw [byteCells_length, HL.out]; omega)
      have c0 : wr.cell? ⟨b, o + p, none⟩ = some (.int .u8 (x.toNat : Int)) := hcc p _ (by unfold byteCells; rw [List.getElem?_map, hx]; rfl)
      have c1 : wr.cell? ⟨b, o + (p + 1), none⟩ = some (.int .u8 (y.toNat : Int)) := hcc (p + 1) _ (by unfold byteCells; rw [List.getElem?_map, hy]; rfl)
      have hv := val2 hx hy
      have hxl := UInt8.toNat_lt x
      have hyl := UInt8.toNat_lt y
      have u1 : (2 : Int) ≤ (l : Int) - (p : Int) := by omega
      have hdl : (bs.drop p).length = l - p := by rw [List.length_drop, HL.out]
      have HSH : Hid (¬ (bs.drop p).length < 2) := by show ¬ _; omega
      obtain ⟨X, hX⟩ : ∃ X, x.toNat = X := ⟨_, rfl⟩
      obtain ⟨Y, hY⟩ : ∃ Y, y.toNat = Y := ⟨_, rfl⟩
      rw [hX] at c0 hxl hv
      rw [hY] at c1 hyl hv
      have HV := Lib.hid hv
      have HDL := Lib.hid hdl
      clear hx hy hv hX hY hdl
      by_cases hz : X + 256 * Y = 0
      · have HPE := Lib.hid (pcL_end (k := k) HSH.out (by rw [HV.out]; exact hz))
        rw [HPE.out] at HPC
        obtain rfl : X = 0 := by omega
        obtain rfl : Y = 0 := by omega
        clear hz hcc
        by_cases hml : p + 2 = l
        · have u3 : ¬ (p : Int) + 2 < (l : Int) := by omega
          have u3' : decide (p + 2 < l) = false := by simp; omega
          have HP2 : Hid (pcA bs = (pre, 0)) := by show _ = _; rw [HPC.out, if_pos (by rw [HDL.out]; omega)]; simp
          clear hml
          go_upto_region 4 with (fail)
          go_region
          go_wp2
          refine bodyPost_ret (v := .tuple #[.slice A' n c', .int .i64 0]) (by simp [results, Tryz.results9, go_sem]) rfl ⟨_, n, c', A', by rw [HP2.out], rfl, fun _ => ?_, fun h => absurd (by rw [HP2.out]) h, HBE.out.drew⟩
          rw [HP2.out]
          exact HO.out.drew
        · have u3 : (p : Int) + 2 < (l : Int) := by omega
          have u3' : decide (p + 2 < l) = true := by simp; omega
          have HP2 : Hid (pcA bs = (pre, 3)) := by show _ = _; rw [HPC.out, if_neg (by rw [HDL.out]; omega)]; simp
          clear hml
          go_upto_region 4 with (fail)
          go_region
          go_wp2
          exact bodyPost_ret (v := .tuple #[.slice none 0 0, .int .i64 3]) (by simp [results, Tryz.results9, go_sem]) rfl ⟨_, 0, 0, none, by rw [HP2.out], rfl, fun h => (by rw [HP2.out] at h; cases h), fun _ => rfl, HBE.out.drew⟩
      · have t1 : (X + 256 * Y == 0) = false := by simp; omega
        have t2 : ((X : Int) + 256 * (Y : Int) == 0) = false := by simp; omega
        by_cases hlong : X + 256 * Y ≤ l - (p + 2)
        · have HPS := Lib.hid (pcL_step (k := k) HSH.out (by rw [HV.out]; exact hz) (by rw [HV.out, HDL.out]; omega))
          rw [HPS.out, HV.out] at HPC
          have u4 : ¬ (l : Int) - ((p : Int) + 2) < (X : Int) + 256 * (Y : Int) := by omega
          have hcq : ¬ c = p + 2 := by omega
          clear hz
          go_upto_region 4 with (fail)
          go_region
          have HPL : Hid ((((bs.drop p).drop 2).take (X + 256 * Y)).length = X + 256 * Y) := by show _ = _; rw [List.length_take, List.length_drop, HDL.out]; omega
          have hbr : Bytes wr.drew B (some ⟨b, o + (p + 2), none⟩) (((bs.drop p).drop 2).take (X + 256 * Y)) := by
            rw [List.drop_drop]
            exact bytes_partD (w := wr.drew) hbB hcc (p + 2) (X + 256 * Y)
          have HBR := Lib.hid hbr
          have HN := Lib.hid hnp
          clear hcc hbr hnp
          go_upto_region 12 with fail
          go_wp2_with (at_builtin; refine wpList_app _ byteElem rfl (.tmp 40) (.tmp 46) rfl w.heap.size (.slice A' n c') n (byteCells pre.flatten) rfl HO.out.drew B (some ⟨b, o + (p + 2), none⟩) (X + 256 * Y) (c - (p + 2)) (byteCells (((bs.drop p).drop 2).take (X + 256 * Y))) (by simp [go_sem]) (by rw [byteCells_length, HPL.out, Nat.mul_one]) HBR.out (byteCells_one _) (by have := HN.out; unfold maxLen; omega) (by have := HN.out; omega) HBE.out.size ?_; intro A6 c6 w6 hA; have HA := Lib.hid hA; clear hA)
          go_roundg (gk - (2 + (X + 256 * Y)))
          case measure => have := HGK.out; omega
          case rel =>
            refine ⟨p + 2 + (X + 256 * Y), k, n + (X + 256 * Y), c6, A6, pre ++ [((bs.drop p).drop 2).take (X + 256 * Y)], rfl, by go_num, by omega, by have := HGK.out; omega, by have := HGK.out; omega, ?_, ?_, by have := HN.out; omega, HA.out.below HBE.out.drew HBE.out.size (own_base HO.out.drew)⟩
            · rw [HPC.out, List.drop_drop, Nat.add_assoc]; simp
            · have := HA.out.own
              show World.ownsRow _ _ _ _ _ _ _
              rw [List.flatten_append, byteCells_append]
              simpa using this
        · have HPS := Lib.hid (pcL_long (k := k) HSH.out (by rw [HV.out]; exact hz) (by rw [HV.out, HDL.out]; omega))
          rw [HPS.out] at HPC
          have u4 : (l : Int) - ((p : Int) + 2) < (X : Int) + 256 * (Y : Int) := by omega
          clear hz
          go_upto_region 4 with (fail)
          go_region
          go_wp2
          exact bodyPost_ret (v := .tuple #[.slice none 0 0, .int .i64 2]) (by simp [results, Tryz.results9, go_sem]) rfl ⟨_, 0, 0, none, by rw [HPC.out], rfl, fun h => (by rw [HPC.out] at h; cases h), fun _ => rfl, HBE.out.drew⟩
    · have HSH : Hid ((bs.drop p).length < 2) := by show _ < _; rw [List.length_drop, HL.out]; omega
      have u1 : ¬ (2 : Int) ≤ (l : Int) - (p : Int) := by omega
      have HPE := Lib.hid (pcL_short (k := k) HSH.out)
      rw [HPE.out] at HPC
      go_wp2
      exact bodyPost_ret (v := .tuple #[.slice none 0 0, .int .i64 2]) (by simp [results, Tryz.results9, go_sem]) rfl ⟨_, 0, 0, none, by rw [HPC.out], rfl, fun h => (by rw [HPC.out] at h; cases h), fun _ => rfl, HBE.out⟩
end Go.Proofs.YtaknladkodibaaaGreat
/- Layer 14: rows of bytes that came in. -/
namespace Go.Proofs.YtaknladkodibaaaGreat
open Go.RowKit

theorem rowsIn_of_lies {w : World} {a : Option Addr} {len cap : Nat} (h : Lies w (.slice (.slice (.int .u8))) [.slice a len cap]) : ∃ ls : List PcV, ls.length = len ∧ len ≤ 9223372036854775807 ∧ RowsIn w a ls := by
  obtain ⟨rs, h1, h2, h3, _, h4⟩ := rows_as (fun x : PcV => [pcC x]) (fun x => Bytes w w.heap.size x.2.1 x.1 ∧ x.1.length ≤ x.2.2) h (fun x _ hx => by
    have hx2 := hx
    obtain ⟨A, l, c, X, he, _, hlc, _⟩ := hx2
    subst he
    obtain ⟨bs, q1, _, q3⟩ := bytes_of_lies hx
    refine ⟨(bs, A, c), ?_, q3, ?_⟩
    · show _ = [Value.slice A bs.length c]
      rw [q1]
    · show bs.length ≤ c
      omega)
  rw [flatten_single] at h4
  exact ⟨rs, h1, h2, h4, h3⟩
end Go.Proofs.YtaknladkodibaaaGreat
