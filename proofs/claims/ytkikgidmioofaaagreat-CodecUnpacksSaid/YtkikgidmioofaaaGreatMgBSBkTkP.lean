/- Layer 13, plainly: what is taken of a block's bits. -/
import Derived.Test.YtkikgidmioofaaaGreatMgB28
import Derived.Test.YtkikgidmioofaaaGreatMgB47
import Derived.Test.YtkikgidmioofaaaGreatMgB30
namespace Go.Proofs.YtkikgidmioofaaaGreat
open BitsP SymP

/-- How many bits a symbol has behind it, of an alphabet whose first class is a symbol. -/
def wdF (zr s : Nat) : Nat := if zr ≤ s ∧ s - zr < 30 then bitsC (s - zr) else 0
theorem wdF_le (zr s : Nat) : wdF zr s ≤ 13 := by
  unfold wdF
  split
  · rename_i h; exact bitsC_le _ h.2
  · omega
section
variable (F : List Int → List Bool → Int × Int × Nat)
/-- A class that is taken at a place, and how far it goes, or why there is none. -/
def clsF (zs : List Int) (zr : Nat) (L : List Bool) (p : Nat) : Int × (Nat × Nat × Nat) × Nat :=
  if (F zs (L.drop p)).2.1 ≠ 0 then ((F zs (L.drop p)).2.1, (0, 0, 0), 0)
  else if L.length < p + (F zs (L.drop p)).2.2 + wdF zr (F zs (L.drop p)).1.toNat then (2, (0, 0, 0), 0)
  else (0, ((F zs (L.drop p)).1.toNat, wdF zr (F zs (L.drop p)).1.toNat, numA L (p + (F zs (L.drop p)).2.2) (wdF zr (F zs (L.drop p)).1.toNat)), (F zs (L.drop p)).2.2 + wdF zr (F zs (L.drop p)).1.toNat)
/-- The tokens that are taken from a place on, behind those that are there, and where they end, or why there are none. -/
def blkL (z1 z2 : List Int) (L : List Bool) (most : Int) : Nat → List Tk → Nat → Nat → Int × List Tk × Nat
  | 0, _, _, _ => (2, [], 0)
  | k + 1, ts, size, p =>
    if (clsF F z1 257 L p).1 ≠ 0 then ((clsF F z1 257 L p).1, [], 0)
    else if (clsF F z1 257 L p).2.1.1 = 256 then (0, ts, p + (clsF F z1 257 L p).2.2)
    else if 256 < (clsF F z1 257 L p).2.1.1 ∧ (clsF F z2 0 L (p + (clsF F z1 257 L p).2.2)).1 ≠ 0 then ((clsF F z2 0 L (p + (clsF F z1 257 L p).2.2)).1, [], 0)
    else
      match (if 256 < (clsF F z1 257 L p).2.1.1 then
          joinR ((clsF F z1 257 L p).2.1.1 : Nat) ((clsF F z1 257 L p).2.1.2.1 : Nat) (clsF F z1 257 L p).2.1.2.2 ((clsF F z2 0 L (p + (clsF F z1 257 L p).2.2)).2.1.1 : Nat) ((clsF F z2 0 L (p + (clsF F z1 257 L p).2.2)).2.1.2.1 : Nat) (clsF F z2 0 L (p + (clsF F z1 257 L p).2.2)).2.1.2.2 true
        else joinR ((clsF F z1 257 L p).2.1.1 : Nat) ((clsF F z1 257 L p).2.1.2.1 : Nat) (clsF F z1 257 L p).2.1.2.2 0 0 0 false) with
      | none => (3, [], 0)
      | some (y, l, d) =>
        if size < d then (3, [], 0)
        else if most - (size : Int) < (max l 1 : Nat) then (5, [], 0)
        else blkL z1 z2 L most k (ts ++ [(UInt8.ofNat y, l, d)]) (size + max l 1) (p + (clsF F z1 257 L p).2.2 + (if 256 < (clsF F z1 257 L p).2.1.1 then (clsF F z2 0 L (p + (clsF F z1 257 L p).2.2)).2.2 else 0))
/-- A block that is taken at a place: its tokens, and where it ends, or why there are none. -/
def blkF (L : List Bool) (p : Nat) (most : Int) : Int × List Tk × Nat :=
  if (tkF F L p).1 ≠ 0 then ((tkF F L p).1, [], 0)
  else if (tkF F L (tkF F L p).2.2).1 ≠ 0 then ((tkF F L (tkF F L p).2.2).1, [], 0)
  else if (tkF F L p).2.1.length ≠ 273 ∨ (tkF F L (tkF F L p).2.2).2.1.length ≠ 30 then (3, [], 0)
  else if caR ((tkF F L p).2.1.map fun n : Nat => (n : Int)) = false ∨ caR ((tkF F L (tkF F L p).2.2).2.1.map fun n : Nat => (n : Int)) = false then (13, [], 0)
  else blkL F ((tkF F L p).2.1.map fun n : Nat => (n : Int)) ((tkF F L (tkF F L p).2.2).2.1.map fun n : Nat => (n : Int)) L most (L.length + 1 - (tkF F L (tkF F L p).2.2).2.2) [] 0 (tkF F L (tkF F L p).2.2).2.2
end
end Go.Proofs.YtkikgidmioofaaaGreat
