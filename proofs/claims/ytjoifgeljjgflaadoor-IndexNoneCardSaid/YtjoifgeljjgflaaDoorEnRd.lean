/- Layer 19: a member is read. -/
import Derived.Test.YtjoifgeljjgflaaDoorEnP
import Derived.Test.YtjoifgeljjgflaaDoorKSts
import Derived.Deep.RegionHeld3
import Derived.Outline
namespace Go.Proofs.YtjoifgeljjgflaaDoor
open Go.RowKit CrcP FieldP

def rdS (bs : List UInt8) (s : RSt) : Nat → RSt
  | 0 => s
  | k + 1 => ((rdS bs s k).num bs (widE k)).2
def rdN (bs : List UInt8) (s : RSt) (k : Nat) : Nat := ((rdS bs s k).num bs (widE k)).1
theorem widE_le : ∀ k, widE k ≤ 4
  | 0 => by decide
  | 1 => by decide
  | _ + 2 => Nat.le_refl _
theorem rdS_le {bs : List UInt8} {s : RSt} (h : s.p ≤ bs.length) : ∀ k, (rdS bs s k).p ≤ bs.length
  | 0 => h
  | k + 1 => num_le (rdS_le h k)
theorem rdN_lt (bs : List UInt8) (s : RSt) (k : Nat) : rdN bs s k < 4294967296 := num_lt (widE_le k)
/-- The name behind the numbers. -/
def rdX (bs : List UInt8) (s : RSt) : List UInt8 × RSt := (rdS bs s 6).row bs (rdN bs s 1)
/-- The member that is read. -/
def rdM (bs : List UInt8) (s : RSt) : LM := ⟨⟨(rdX bs s).1.toArray⟩, (rdN bs s 2 : Nat), (rdN bs s 2 : Nat) + (22 + ((rdX bs s).1.length : Int)), (rdN bs s 4 : Nat), (rdN bs s 3 : Nat), (rdN bs s 5 : Nat), (rdN bs s 0 : Nat)⟩
def LM.arr (m : LM) : Array Value := #[.string m.nm, .int .i64 m.at_, .int .i64 m.fr, .int .i64 m.ar, .int .i64 m.sz, .int .u32 m.su, .int .i64 m.me]
def arr6 (v0 v1 v2 v3 v4 v5 : Nat) : Nat → Array Value
  | 0 => #[.int .u32 0, .int .u32 0, .int .u32 0, .int .u32 0, .int .u32 0, .int .u32 0]
  | 1 => #[.int .u32 (v0 : Int), .int .u32 0, .int .u32 0, .int .u32 0, .int .u32 0, .int .u32 0]
  | 2 => #[.int .u32 (v0 : Int), .int .u32 (v1 : Int), .int .u32 0, .int .u32 0, .int .u32 0, .int .u32 0]
  | 3 => #[.int .u32 (v0 : Int), .int .u32 (v1 : Int), .int .u32 (v2 : Int), .int .u32 0, .int .u32 0, .int .u32 0]
  | 4 => #[.int .u32 (v0 : Int), .int .u32 (v1 : Int), .int .u32 (v2 : Int), .int .u32 (v3 : Int), .int .u32 0, .int .u32 0]
  | 5 => #[.int .u32 (v0 : Int), .int .u32 (v1 : Int), .int .u32 (v2 : Int), .int .u32 (v3 : Int), .int .u32 (v4 : Int), .int .u32 0]
  | _ => #[.int .u32 (v0 : Int), .int .u32 (v1 : Int), .int .u32 (v2 : Int), .int .u32 (v3 : Int), .int .u32 (v4 : Int), .int .u32 (v5 : Int)]
theorem only_new {g N i : Nat} {w w' : World} (h : Only g w w') (hN : w.heap.size ≤ N) (v : Value) : Only g w (w'.setCell ⟨N, i, none⟩ v) :=
  ⟨h.os, h.tape, h.output, by simpa [World.setCell] using h.size, fun k hk hne => (Below.heap_setCell w' _ v k (fun e => by have : k = N := e; omega)).trans (h.block k hk hne)⟩
theorem row_len_le (bs : List UInt8) (s : RSt) (k : Nat) : (s.row bs k).1.length ≤ bs.length := by
  unfold RSt.row
  split
  · exact Nat.zero_le _
  · split
    · rw [List.length_take, List.length_drop]; omega
    · exact Nat.zero_le _
theorem only_grown {g : Nat} {w W w' : World} (h : Only g w W) (hb : Below W.heap.size W w') : Only g w w' :=
  ⟨hb.os.trans h.os, hb.tape.trans h.tape, hb.output.trans h.output, Nat.le_trans h.size hb.size, fun k hk hne => (hb.block k (Nat.lt_of_lt_of_le hk h.size)).trans (h.block k hk hne)⟩
theorem wpAnyH_stronger {P : Program} {ops : Array Oper} {Q : Exit → Act → World → Prop} {md : Region.Mode} {S1 S2 : World → Prop} (h : ∀ w, S2 w → S1 w) : ∀ {fuel : Nat} {listed : Array Bool} {a : Act} {w : World}, wpAnyH P md ops Q S2 fuel listed a w → wpAnyH P md ops Q S1 fuel listed a w
  | 0, _, _, _, hw => hw
  | _ + 1, _, _, _, hw => ⟨hw.1, fun i hi => wpOp_mono (fun _ w' hs => ⟨h w' hs.1, wpAnyH_stronger h hs.2⟩) (hw.2 i hi)⟩
theorem cell_block' {w w' : World} {b : Nat} (h : w'.heap[b]? = w.heap[b]?) (k : Nat) : w'.cell? ⟨b, k, none⟩ = w.cell? ⟨b, k, none⟩ := by unfold World.cell?; rw [h]
theorem only_later {g : Nat} {w W w' : World} (h : Only g W w') (k : Only g w W) : Only g w w' := only_trans k h

end Go.Proofs.YtjoifgeljjgflaaDoor
