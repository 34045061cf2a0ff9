/- Layer 4, the small ones: within, Size, Waiting, Need, sector, spoil. -/
import Derived.Test.YtjedhemjojcekaaRows
import Derived.Test.YtjedhemjojcekaaMoves
import Derived.WalkKit
import Derived.WalkSpells
import Derived.WalkLawsBesides
import Derived.Lib.Hide
import Derived.Deep.RegionHeld3
import Derived.Deep.DrawnRows
import Derived.Deep.LoopGhost
import Derived.StillTailTactics
import Derived.Deep.RegionLaw
namespace Go.Proofs.Ytjedhemjojcekaa
open Go.RowKit
attribute [local go_sem ↓] Go.wp_at_zero Go.wp_at_succ

theorem byteElem4 : Elem Try.prog 25 5 (.int .u8 0) 1 1 := Elem.of Try.underlying25 (by kernel_rfl) rfl (by omega)

/-- A disk's block. -/
def DkB (w : World) (g : Nat) (v1 v2 v3 : Value) : Prop := w.heap[g]? = some (.cells #[v1, v2, v3] 28 (0, 0))
theorem DkB.cells {w : World} {g : Nat} {v1 v2 v3 : Value} (h : DkB w g v1 v2 v3) :
    w.cell? ⟨g, 0, none⟩ = some v1 ∧ w.cell? ⟨g, 1, none⟩ = some v2 ∧ w.cell? ⟨g, 2, none⟩ = some v3 ∧ w.frozen? ⟨g, 0, none⟩ = false ∧ w.frozen? ⟨g, 1, none⟩ = false ∧ w.frozen? ⟨g, 2, none⟩ = false :=
  ⟨cell_of_row w g 0 _ _ _ h, cell_of_row w g 1 _ _ _ h, cell_of_row w g 2 _ _ _ h, frozen_of_row w g 0 _ _ h, frozen_of_row w g 1 _ _ h, frozen_of_row w g 2 _ _ h⟩
theorem DkB.set0 {w : World} {g : Nat} {v1 v2 v3 u : Value} (h : DkB w g v1 v2 v3) : DkB (w.setCell ⟨g, 0, none⟩ u) g u v2 v3 := heap_setCell_same w g 0 _ _ _ h
theorem DkB.set1 {w : World} {g : Nat} {v1 v2 v3 u : Value} (h : DkB w g v1 v2 v3) : DkB (w.setCell ⟨g, 1, none⟩ u) g v1 u v3 := heap_setCell_same w g 1 _ _ _ h
theorem DkB.set2 {w : World} {g : Nat} {v1 v2 v3 u : Value} (h : DkB w g v1 v2 v3) : DkB (w.setCell ⟨g, 2, none⟩ u) g v1 v2 u := heap_setCell_same w g 2 _ _ _ h
theorem DkB.lt {w : World} {g : Nat} {v1 v2 v3 : Value} (h : DkB w g v1 v2 v3) : g < w.heap.size := (Array.getElem?_eq_some_iff.1 h).1
theorem ret_int4 {k : IntKind} {a b : Int} (h : a = b) : Ending.returned (.int k a) = .returned (.int k b) := by rw [h]

/-- May so many bytes from a place on be there? -/
def okW (at_ n : Int) : Bool := decide (0 ≤ at_) && (decide (0 ≤ n) && decide (n ≤ 2097152 - at_))

theorem within_any (p n : Int) (w : World) (p0 : -9223372036854775808 ≤ p) (p1 : p ≤ 9223372036854775807) (n0 : -9223372036854775808 ≤ n) (n1 : n ≤ 9223372036854775807) :
    Calls Try.prog 26 #[.int .i64 p, .int .i64 n] w fun e w' => e = .returned (.bool (okW p n)) ∧ w = w' := by
  go_enter Try.func26, Try.ntmps26
  by_cases h0 : 0 ≤ p
  · have hw : IntKind.i64.wrap (2097152 - p) = 2097152 - p := IntWalk.i64_in _ (by omega)
    by_cases h1 : 0 ≤ n
    · by_cases h2 : n ≤ 2097152 - p
      · go_wp2
        go_ret
        exact ⟨by simp [okW, h0, h1, h2], rfl⟩
      · have h2' : decide (n ≤ 2097152 - p) = false := by simp; omega
        go_wp2
        go_ret
        exact ⟨by simp [okW, h0, h1, h2], rfl⟩
    · have h1' : decide (0 ≤ n) = false := by simp; omega
      go_wp2
      go_ret
      exact ⟨by simp [okW]; omega, rfl⟩
  · have h0' : decide (0 ≤ p) = false := by simp; omega
    go_wp2
    go_ret
    exact ⟨by simp [okW]; omega, rfl⟩

theorem size4_any (g : Nat) (A : Option Addr) (l c : Nat) (v2 v3 : Value) (w : World) (h : DkB w g (.slice A l c) v2 v3) (hm : l ≤ 1099511627776) :
    Calls Try.prog 9 #[.pointer (some ⟨g, 0, none⟩)] w fun e w' => e = .returned (.int .i64 ((l / 512 : Nat) : Int)) ∧ w = w' := by
  obtain ⟨c0, _⟩ := h.cells
  clear h
  go_enter Try.func9, Try.ntmps9
  go_wp2
  go_ret
  exact ⟨ret_int4 (by omega), rfl⟩
theorem waiting4_any (g : Nat) (A : Option Addr) (l c : Nat) (v1 v2 : Value) (w : World) (h : DkB w g v1 v2 (.slice A l c)) :
    Calls Try.prog 10 #[.pointer (some ⟨g, 0, none⟩)] w fun e w' => e = .returned (.int .i64 (l : Int)) ∧ w = w' := by
  obtain ⟨_, _, c0, _⟩ := h.cells
  clear h
  go_enter Try.func10, Try.ntmps10
  go_wp2
  go_ret
  exact ⟨rfl, rfl⟩

theorem sector_any (b o l c k : Nat) (w : World) (hl : l ≤ c) (hm : l ≤ 1099511627776) (hk : 512 * k + 512 ≤ l) :
    Calls Try.prog 24 #[.slice (some ⟨b, o, none⟩) l c, .int .i64 (k : Int)] w fun e w' => e = .returned (.slice (some ⟨b, o + 512 * k, none⟩) 512 512) ∧ w = w' := by
  have h1 : IntKind.i64.wrap ((k : Int) * 512) = ((512 * k : Nat) : Int) := by rw [show ((k : Int) * 512) = ((512 * k : Nat) : Int) by omega]; exact IntWalk.i64_in _ (by omega)
  have h2 : IntKind.i64.wrap ((k : Int) + 1) = ((k + 1 : Nat) : Int) := IntWalk.i64_in _ (by omega)
  have h3 : IntKind.i64.wrap (((k + 1 : Nat) : Int) * 512) = ((512 * k + 512 : Nat) : Int) := by rw [show (((k + 1 : Nat) : Int) * 512) = ((512 * k + 512 : Nat) : Int) by omega]; exact IntWalk.i64_in _ (by omega)
  have h4 : ¬ (512 * k + 512 = 512 * k) := by omega
  go_enter Try.func24, Try.ntmps24
  go_wp2
  go_ret
  refine ⟨?_, rfl⟩
  have e : (k + 1) * 512 - 512 * k = 512 := by omega
  show Ending.returned (.slice (some ⟨b, o + 512 * k, none⟩) ((k + 1) * 512 - 512 * k) ((k + 1) * 512 - 512 * k)) = _
  rw [e]

/-- The bytes of a sector that was never safe. -/
def spoilt (n k fill : Nat) : List UInt8 := (List.range n).map fun j => UInt8.ofNat (fill + 7 * k + j)
theorem spoilt_length (n k fill : Nat) : (spoilt n k fill).length = n := by simp [spoilt]
theorem spoilt_get (n k fill j : Nat) (h : j < n) : (spoilt n k fill)[j]? = some (UInt8.ofNat (fill + 7 * k + j)) := by simp [spoilt, h]
theorem take_snoc' {α : Type} {xs : List α} {j : Nat} {x : α} (h : xs[j]? = some x) : xs.take (j + 1) = xs.take j ++ [x] := by
  obtain ⟨hj, rfl⟩ := List.getElem?_eq_some_iff.1 h
  exact (List.take_append_getElem hj).symm

set_option maxHeartbeats 1000000 in
theorem spoil_any (g o n k fill : Nat) (cur : List Value) (t : TypeId) (w : World) (hg : w.heap[g]? = some (.cells cur.toArray t (0, 0))) (hfit : o + n ≤ cur.length) (hn : n ≤ 4096) (hk : k ≤ 4096) (_hf : fill < 256) :
    Calls Try.prog 23 #[.slice (some ⟨g, o, none⟩) n n, .int .i64 (k : Int), .int .u8 (fill : Int)] w fun e w' => e = .returned (.tuple #[]) ∧ w'.heap[g]? = some (.cells (splice cur o (byteCells (spoilt n k fill))).toArray t (0, 0)) ∧ Mod (oneB g) w w' := by
  have hw1 : IntKind.i64.wrap (7 * (k : Int)) = 7 * (k : Int) := IntWalk.i64_in _ (by omega)
  have HG := Lib.hid hg
  clear hg
  go_enter Try.func23, Try.ntmps23
  go_wp2
  go_loopg [6, 9] n (fun gk _ v wr => ∃ j : Nat, j + gk = n ∧ v = .int .i64 j ∧ wr.heap[g]? = some (.cells (splice cur o (byteCells ((spoilt n k fill).take j))).toArray t (0, 0)) ∧ Mod (oneB g) w wr)
  case atStart => exact ⟨0, Nat.zero_add _, rfl, by simpa [byteCells, splice_nil] using HG.out, Mod.refl _ _⟩
  case round =>
    obtain ⟨j, hj, rfl, hrow, hmod⟩ := hrel
    have HROW := Lib.hid hrow
    have HMOD := Lib.hid hmod
    by_cases h : j < n
    · have HX := Lib.hid (spoilt_get n k fill j h)
      have hls : (splice cur o (byteCells ((spoilt n k fill).take j))).length = cur.length := length_splice _ _ _ (by rw [byteCells_length, List.length_take, spoilt_length]; omega)
      obtain ⟨u, hu⟩ := get_lt (bs := splice cur o (byteCells ((spoilt n k fill).take j))) (k := o + j) (by omega)
      have hc : wr.cell? ⟨g, o + j, none⟩ = some u := by rw [cell_of_row _ _ _ _ _ _ hrow]; simpa using hu
      have hfr : wr.frozen? ⟨g, o + j, none⟩ = false := frozen_of_row _ _ _ _ _ hrow
      have HLS := Lib.hid hls
      clear hrow hmod hu hls
      obtain ⟨x1, hx1⟩ : ∃ x, IntKind.u8.wrap (7 * (k : Int)) = x := ⟨_, rfl⟩
      obtain ⟨x2, hx2⟩ : ∃ x, IntKind.u8.wrap ((fill : Int) + x1) = x := ⟨_, rfl⟩
      obtain ⟨x3, hx3⟩ : ∃ x, IntKind.u8.wrap (j : Int) = x := ⟨_, rfl⟩
      obtain ⟨x4, hx4⟩ : ∃ x, IntKind.u8.wrap (x2 + x3) = x := ⟨_, rfl⟩
      have HX4 : Hid (x4 = ((UInt8.ofNat (fill + 7 * k + j)).toNat : Int)) := by
        show _ = _
        rw [← hx4, ← hx3, ← hx2, ← hx1]
        simp only [IntKind.wrap_u8, UInt8.toNat_ofNat']
        omega
      go_wp2
      go_roundg (n - 1 - j)
      case measure => omega
      case rel =>
        refine ⟨j + 1, by omega, rfl, ?_, HMOD.out.set _ _ (.inl rfl)⟩
        refine (heap_setCell_same wr g (o + j) _ _ _ HROW.out).trans ?_
        have e1 : byteCells ((spoilt n k fill).take (j + 1)) = byteCells ((spoilt n k fill).take j) ++ [Value.int .u8 x4] := by
          rw [take_snoc' HX.out, byteCells_append, HX4.out]
          rfl
        have hl2 : (byteCells ((spoilt n k fill).take j)).length = j := by rw [byteCells_length, List.length_take, spoilt_length]; omega
        have e2 := splice_over (L := cur) (X := byteCells ((spoilt n k fill).take j)) (Y := [Value.int .u8 x4]) (o := o) (by omega)
        rw [e1, ← e2, hl2, ← set_splice _ _ _ (by rw [HLS.out]; omega)]
        simp
    · obtain rfl : j = n := by omega
      go_wp2
      go_end0
      refine ⟨rfl, ?_, HMOD.out⟩
      have := HROW.out
      rwa [List.take_of_length_le (by rw [spoilt_length]; omega)] at this
end Go.Proofs.Ytjedhemjojcekaa
