/- The reader of layer 2 over any bytes, by its state: its place, and whether it isn't fine. -/
import Derived.Test.YtkgkefifcpneiaaDoorKField
import Derived.Test.YtkgkefifcpneiaaDoorMoves
import Derived.StillTailTactics
namespace Go.Proofs.YtkgkefifcpneiaaDoor
open Go.RowKit FieldP
attribute [local go_sem ↓] Go.wp_at_zero Go.wp_at_succ

/-- A reader's state, and what it reads. -/
structure RSt where
  p : Nat
  bad : Bool
/-- A number of k bytes. -/
def RSt.num (bs : List UInt8) (s : RSt) (k : Nat) : Nat × RSt :=
  if s.bad = true then (0, s) else if s.p + k ≤ bs.length then (val ((bs.drop s.p).take k), ⟨s.p + k, false⟩) else (0, ⟨s.p, true⟩)
/-- Some bytes. -/
def RSt.row (bs : List UInt8) (s : RSt) (n : Nat) : List UInt8 × RSt :=
  if s.bad = true then ([], s) else if s.p + n ≤ bs.length then ((bs.drop s.p).take n, ⟨s.p + n, false⟩) else ([], ⟨s.p, true⟩)
theorem num_le {bs : List UInt8} {s : RSt} {k : Nat} (h : s.p ≤ bs.length) : (s.num bs k).2.p ≤ bs.length := by
  unfold RSt.num
  split
  · exact h
  · split
    · assumption
    · exact h
theorem row_le {bs : List UInt8} {s : RSt} {k : Nat} (h : s.p ≤ bs.length) : (s.row bs k).2.p ≤ bs.length := by
  unfold RSt.row
  split
  · exact h
  · split
    · assumption
    · exact h
theorem num_lt {bs : List UInt8} {s : RSt} {k : Nat} (hk : k ≤ 4) : (s.num bs k).1 < 4294967296 := by
  unfold RSt.num
  split
  · omega
  · split
    · exact val_lt4 (by rw [List.length_take]; omega)
    · omega
theorem byteSize : (Tryd.prog.info? 5).map (·.size) = some 1 := by kernel_rfl
theorem byteInfo : (Tryd.prog.info? 5).map (fun i => (i.zero, i.size, i.bytes)) = some (some (.int .u8 0), 1, 1) := by kernel_rfl
theorem make_bytes (n : Nat) (hn : n ≤ 281474976710656) (W : World) :
    (Instr.makeSlice 31 (.int .i64 (n : Int)) (.int .i64 (n : Int))).run Tryd.prog W = .ok (.slice (some ⟨W.heap.size, 0, none⟩) n n) (W.alloc (.cells (madeCells #[.int .u8 0] n) 5)) := by
  obtain ⟨i0, hi, hz0, hz1, hz2⟩ := info_parts byteInfo
  have h := run_make (P := Tryd.prog) W 31 5 i0 (.int .u8 0) Tryd.underlying31 hi hz0 .i64 .i64 n n (by omega) (Int.le_refl _) (by rw [hz2]; omega) (by omega)
  simp only [Int.toNat_natCast, hz1, Nat.mul_one] at h
  exact h
theorem own_made (w : World) (base n : Nat) (hb : base ≤ w.heap.size) (hm : n ≤ maxLen) : OwnB (w.alloc (.cells (madeCells #[Value.int .u8 0] n) 5)) base 5 (.slice (some ⟨w.heap.size, 0, none⟩) n n) n (List.replicate n 0) := by
  refine own_of_row (cur := byteCells (List.replicate n 0)) ?_ hb (Nat.le_refl _) hm (by simp [byteCells]) (List.take_of_length_le (by simp [byteCells]))
  have e : madeCells #[Value.int .u8 0] n = (byteCells (List.replicate n 0)).toArray := by
    apply Array.toList_inj.1
    rw [toList_madeCells_one]
    simp [byteCells]
  rw [e]
  exact heap_alloc_new w _

theorem only_mod {g : Nat} {S : Nat → Prop} {w w1 w2 : World} (h : Only g w w1) (hm : Mod S w1 w2) (hS : ∀ k, S k → w.heap.size ≤ k) : Only g w w2 :=
  ⟨hm.os.trans h.os, hm.tape.trans h.tape, hm.output.trans h.output, Nat.le_trans h.size hm.size, fun k hk hne => (hm.block k (Nat.lt_of_lt_of_le hk h.size) (fun hs => by have := hS k hs; omega)).trans (h.block k hk hne)⟩
theorem only_drew {g : Nat} {w w' : World} (h : Only g w w') : Only g w w'.drew := ⟨h.os, h.tape, h.output, h.size, h.block⟩
theorem splice_all {α : Type} {L X : List α} (h : L.length = X.length) : splice L 0 X = X := by
  unfold splice
  rw [List.drop_of_length_le (by omega)]
  simp

end Go.Proofs.YtkgkefifcpneiaaDoor
