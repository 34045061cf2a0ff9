/- Layer 4, the document's answer: its state, told by the same bytes as the program's, and its small functions. -/
import Derived.Test.YtjedhemjojcekaaDiskPlain
namespace Go.Proofs.Ytjedhemjojcekaa
open Go.RowKit
attribute [local go_sem ↓] Go.wp_at_zero Go.wp_at_succ

theorem right_any (p n : Int) (w : World) (p0 : -9223372036854775808 ≤ p) (p1 : p ≤ 9223372036854775807) (n0 : -9223372036854775808 ≤ n) (n1 : n ≤ 9223372036854775807) :
    Calls Try.prog 20 #[.int .i64 p, .int .i64 n] w fun e w' => e = .returned (.bool (okW p n)) ∧ w = w' := by
  go_enter Try.func20, Try.ntmps20
  by_cases h0 : 0 ≤ p
  · by_cases h1 : 0 ≤ n
    · by_cases h2 : n ≤ 2097152
      · have hw : IntKind.i64.wrap (2097152 - n) = 2097152 - n := IntWalk.i64_in _ (by omega)
        by_cases h3 : p ≤ 2097152 - n
        · go_wp2
          go_ret
          exact ⟨by congr 2; simp [okW]; omega, rfl⟩
        · have h3' : decide (p ≤ 2097152 - n) = false := by simp; omega
          go_wp2
          go_ret
          exact ⟨by congr 2; simp [okW]; omega, rfl⟩
      · have h2' : decide (n ≤ 2097152) = false := by simp; omega
        go_wp2
        go_ret
        exact ⟨by congr 2; simp [okW]; omega, rfl⟩
    · have h1' : decide (0 ≤ n) = false := by simp; omega
      go_wp2
      go_ret
      exact ⟨by congr 2; simp [okW]; omega, rfl⟩
  · have h0' : decide (0 ≤ p) = false := by simp; omega
    go_wp2
    go_ret
    exact ⟨by congr 2; simp [okW]; omega, rfl⟩

/-- 512 zeros. -/
def zero512 : List UInt8 := List.replicate 512 0
set_option maxRecDepth 100000 in
theorem zero_any (w : World) : Calls Try.prog 22 #[] w fun e w' => e = .returned (.string ⟨zero512.toArray⟩) ∧ Below w.heap.size w w' := by
  have hmk : ∀ W, (Instr.makeSlice 25 (.int .i64 512) (.int .i64 512)).run Try.prog W = .ok (.slice (some ⟨W.heap.size, 0, none⟩) 512 512) (W.alloc (.cells (madeCells #[.int .u8 0] 512) 5)) := make_bytes4 512 (by omega)
  have HO := Lib.hid (own_made4 w w.heap.size 512 (Nat.le_refl _) (by unfold maxLen; omega))
  have HB := Lib.hid ((Below.refl w.heap.size w).alloc (Nat.le_refl _) (.cells (madeCells #[Value.int .u8 0] 512) 5))
  have hs := run_string_of (P := Try.prog) (c := 512) 25 9 5 Try.underlying25 Try.underlying5 Try.underlying9 (Cells.of_own HO.out) (List.length_replicate ..)
  rw [show (⟨(List.replicate 512 (0 : UInt8)).toArray⟩ : ByteArray) = ⟨zero512.toArray⟩ from rfl] at hs
  generalize (⟨zero512.toArray⟩ : ByteArray) = str at *
  clear HO
  go_enter Try.func22, Try.ntmps22
  go_wp2
  go_ret
  exact ⟨rfl, HB.out⟩

/-- A row of texts. -/
def strCells (l : List (List UInt8)) : List Value := l.map fun x => .string ⟨x.toArray⟩
/-- What waits, as texts. -/
def wCells (l : List (Nat × List UInt8)) : List Value := l.flatMap fun x => [.int .i64 (x.1 : Int), .string ⟨x.2.toArray⟩]
/-- The sectors of some bytes. -/
def sectors (l : List UInt8) : List (List UInt8) := (List.range (l.length / 512)).map fun i => secAt i l
/-- What is safe of each sector. -/
def safes (z : Nat) (safe : List UInt8) : List (List UInt8) := (List.range z).map fun i => if i < safe.length / 512 then secAt i safe else []
def hass (z : Nat) (safe : List UInt8) : List Bool := (List.range z).map fun i => decide (i < safe.length / 512)

def RfB (w : World) (g : Nat) (v1 v2 v3 v4 : Value) : Prop := w.heap[g]? = some (.cells #[v1, v2, v3, v4] 33 (0, 0))
/-- The reference's disk: the same bytes, sector by sector. -/
structure RfL (w : World) (g base : Nat) (nw sf : List (List UInt8)) (hs : List Bool) (wt : List (Nat × List UInt8)) (A1 : Option Addr) (c1 : Nat) (A2 : Option Addr) (c2 : Nat) (A3 : Option Addr) (c3 : Nat) (A4 : Option Addr) (c4 : Nat) : Prop where
  blk : RfB w g (.slice A1 nw.length c1) (.slice A2 sf.length c2) (.slice A3 hs.length c3) (.slice A4 wt.length c4)
  o1 : w.ownsRow base 9 1 (.slice A1 nw.length c1) nw.length (strCells nw)
  o2 : w.ownsRow base 9 1 (.slice A2 sf.length c2) sf.length (strCells sf)
  o3 : w.ownsRow base 4 1 (.slice A3 hs.length c3) hs.length (boolCells hs)
  o4 : w.ownsRow base 54 2 (.slice A4 wt.length c4) wt.length (wCells wt)
  apart : ∀ k, ownS (.slice A1 nw.length c1) k → ¬ ownS (.slice A2 sf.length c2) k

theorem RfB.cells {w : World} {g : Nat} {v1 v2 v3 v4 : Value} (h : RfB w g v1 v2 v3 v4) :
    w.cell? ⟨g, 0, none⟩ = some v1 ∧ w.cell? ⟨g, 1, none⟩ = some v2 ∧ w.cell? ⟨g, 2, none⟩ = some v3 ∧ w.cell? ⟨g, 3, none⟩ = some v4 ∧ w.frozen? ⟨g, 0, none⟩ = false ∧ w.frozen? ⟨g, 1, none⟩ = false ∧ w.frozen? ⟨g, 2, none⟩ = false ∧ w.frozen? ⟨g, 3, none⟩ = false :=
  ⟨cell_of_row w g 0 _ _ _ h, cell_of_row w g 1 _ _ _ h, cell_of_row w g 2 _ _ _ h, cell_of_row w g 3 _ _ _ h, frozen_of_row w g 0 _ _ h, frozen_of_row w g 1 _ _ h, frozen_of_row w g 2 _ _ h, frozen_of_row w g 3 _ _ h⟩
theorem strElem : Elem Try.prog 29 9 (.string ⟨#[]⟩) 1 16 := Elem.of Try.underlying29 (by kernel_rfl) rfl (by omega)
theorem boolElem : Elem Try.prog 30 4 (.bool false) 1 1 := Elem.of Try.underlying30 (by kernel_rfl) rfl (by omega)
theorem refWElem : Elem Try.prog 31 54 (.agg #[.int .i64 0, .string ⟨#[]⟩]) 2 24 := Elem.of Try.underlying31 (by kernel_rfl) (by kernel_rfl) (by omega)

set_option maxRecDepth 100000 in
theorem refNeed_any (g : Nat) (A : Option Addr) (l c : Nat) (v2 v3 v4 : Value) (p n : Nat) (w : World) (h : RfB w g (.slice A l c) v2 v3 v4) (_hl : l ≤ 4096) (hp : p + n ≤ 2097152) :
    Calls Try.prog 21 #[.pointer (some ⟨g, 0, none⟩), .int .i64 (p : Int), .int .i64 (n : Int)] w fun e w' => e = .returned (.int .i64 ((needV (512 * l) p n : Nat) : Int)) ∧ w = w' := by
  obtain ⟨c0, _⟩ := h.cells
  clear h
  have HN : Hid (needV (512 * l) p n = if n = 0 then l else max l ((p + n - 1) / 512 + 1)) := by
    show _ = _
    unfold needV
    rw [show 512 * l / 512 = l by omega]
  generalize needV (512 * l) p n = z at *
  by_cases h0 : n = 0
  · subst h0
    have HN0 : Hid (z = l) := by have h := HN.out; show z = l; simpa using h
    go_enter Try.func21, Try.ntmps21
    go_wp2
    go_ret
    exact ⟨ret_int4 (by rw [HN0.out]), rfl⟩
  · have HN0 : Hid (z = max l ((p + n + 511) / 512)) := by
      have := HN.out
      rw [if_neg h0, show (p + n - 1) / 512 + 1 = (p + n + 511) / 512 by omega] at this
      exact this
    by_cases h1 : l < (p + n + 511) / 512
    · have h2 : decide ((l : Int) < ((p : Int) + (n : Int) + 511) / 512) = true := by simp; omega
      go_enter Try.func21, Try.ntmps21
      go_wp2
      go_ret
      exact ⟨ret_int4 (by rw [HN0.out]; omega), rfl⟩
    · have h2 : decide ((l : Int) < ((p : Int) + (n : Int) + 511) / 512) = false := by simp; omega
      go_enter Try.func21, Try.ntmps21
      go_wp2
      go_ret
      exact ⟨ret_int4 (by rw [HN0.out]; omega), rfl⟩

set_option maxRecDepth 100000 in
set_option maxHeartbeats 1000000 in
theorem strange_any (k fill : Nat) (w : World) (hk : k ≤ 4096) (hf : fill < 256) : Calls Try.prog 25 #[.int .i64 (k : Int), .int .u8 (fill : Int)] w fun e w' => e = .returned (.string ⟨(spoilt 512 k fill).toArray⟩) ∧ Below w.heap.size w w' := by
  have hmk : ∀ W, (Instr.makeSlice 25 (.int .i64 512) (.int .i64 512)).run Try.prog W = .ok (.slice (some ⟨W.heap.size, 0, none⟩) 512 512) (W.alloc (.cells (madeCells #[.int .u8 0] 512) 5)) := make_bytes4 512 (by omega)
  have HO := Lib.hid (own_made4 w w.heap.size 512 (Nat.le_refl _) (by unfold maxLen; omega))
  have HB := Lib.hid ((Below.refl w.heap.size w).alloc (Nat.le_refl _) (.cells (madeCells #[Value.int .u8 0] 512) 5))
  go_enter Try.func25, Try.ntmps25
  go_wp2
  have HG : Hid ((w.alloc (.cells (madeCells #[Value.int .u8 0] 512) 5)).heap[w.heap.size]? = some (.cells (byteCells (List.replicate 512 0)).toArray 5 (0, 0))) := by
    have e : madeCells #[Value.int .u8 0] 512 = (byteCells (List.replicate 512 0)).toArray := by
      apply Array.toList_inj.1
      rw [toList_madeCells_one]
      simp [byteCells]
    rw [e]
    exact heap_alloc_new w _
  obtain ⟨Z, hZ⟩ : ∃ Z, Z = byteCells (List.replicate 512 0) := ⟨_, rfl⟩
  have hZl : Z.length = 512 := by rw [hZ, byteCells_length, List.length_replicate]
  rw [← hZ] at HG
  clear hZ HO hmk
  generalize w.alloc (.cells (madeCells #[Value.int .u8 0] 512) 5) = w1 at *
  generalize hgg : w.heap.size = g at *
  have HGG := Lib.hid hgg
  clear hgg
  go_loopg [6] 512 (fun gk v wr => ∃ j : Nat, j + gk = 512 ∧ v = .int .i64 j ∧ wr.heap[g]? = some (.cells (splice Z 0 (byteCells ((spoilt 512 k fill).take j))).toArray 5 (0, 0)) ∧ Below g w wr)
  case atStart => exact ⟨0, rfl, rfl, by simpa [byteCells, splice_nil] using HG.out, HB.out⟩
  case round =>
    obtain ⟨j, hj, rfl, hrow, hbel⟩ := hrel
    have HROW := Lib.hid hrow
    have HBEL := Lib.hid hbel
    by_cases h : j < 512
    · have HX := Lib.hid (spoilt_get 512 k fill j h)
      have hls : (splice Z 0 (byteCells ((spoilt 512 k fill).take j))).length = Z.length := length_splice _ _ _ (by rw [byteCells_length, List.length_take, spoilt_length]; omega)
      obtain ⟨u, hu⟩ := get_lt (bs := splice Z 0 (byteCells ((spoilt 512 k fill).take j))) (k := j) (by omega)
      have hc : wr.cell? ⟨g, j, none⟩ = some u := by rw [cell_of_row _ _ _ _ _ _ hrow]; simpa using hu
      have hfr : wr.frozen? ⟨g, j, none⟩ = false := frozen_of_row _ _ _ _ _ hrow
      have HLS := Lib.hid hls
      have HZL := Lib.hid hZl
      clear hrow hbel hu hls hZl
      have HX4 : Hid (((fill : Int) + 7 * (k : Int) + (j : Int)) % 256 = ((UInt8.ofNat (fill + 7 * k + j)).toNat : Int)) := by
        show _ = _
        simp only [UInt8.toNat_ofNat']
        omega
      go_wp2
      go_roundg (511 - j)
      case measure => omega
      case rel =>
        refine ⟨j + 1, by omega, rfl, ?_, HBEL.out.setCell (Nat.le_refl _) _⟩
        refine (heap_setCell_same wr g j _ _ _ HROW.out).trans ?_
        have e1 : byteCells ((spoilt 512 k fill).take (j + 1)) = byteCells ((spoilt 512 k fill).take j) ++ [Value.int .u8 (((fill : Int) + 7 * (k : Int) + (j : Int)) % 256)] := by
          rw [take_snoc' HX.out, byteCells_append, HX4.out]
          rfl
        have hl2 : (byteCells ((spoilt 512 k fill).take j)).length = j := by rw [byteCells_length, List.length_take, spoilt_length]; omega
        have e2 := splice_over (L := Z) (X := byteCells ((spoilt 512 k fill).take j)) (Y := [Value.int .u8 (((fill : Int) + 7 * (k : Int) + (j : Int)) % 256)]) (o := 0) (by have := HZL.out; omega)
        rw [e1, ← e2, hl2, Nat.zero_add, ← set_splice _ _ _ (by rw [HLS.out, HZL.out]; omega)]
        simp
    · obtain rfl : j = 512 := by omega
      rw [List.take_of_length_le (by rw [spoilt_length]; omega), splice_whole _ _ (by rw [byteCells_length, spoilt_length, hZl])] at hrow
      have hb : Bytes wr (g + 1) (some ⟨g, 0, none⟩) (spoilt 512 k fill) := fun _ => ⟨g, 0, rfl, Nat.lt_succ_self _, fun i u hu => by
        rw [Nat.zero_add, cell_of_row _ _ _ _ _ _ hrow]
        simpa using hu⟩
      have hs := run_string_of (P := Try.prog) (c := 512) 25 9 5 Try.underlying25 Try.underlying5 Try.underlying9 hb (spoilt_length 512 k fill)
      clear hrow hbel hb HROW
      generalize hst : (⟨(spoilt 512 k fill).toArray⟩ : ByteArray) = str at *
      have HST := Lib.hid hst
      clear hst
      go_wp2
      go_ret
      have := HGG.out
      subst this
      have := HST.out
      subst this
      exact ⟨rfl, HBEL.out⟩
end Go.Proofs.Ytjedhemjojcekaa
