/- Numbers as bytes: how many bytes, what stands somewhere, and the reader. -/
import Derived.Test.YtkgkefifcpneiaaDoorKCrc
import Derived.Test.YtkgkefifcpneiaaDoorFieldPlain
import Derived.Test.YtkgkefifcpneiaaDoorTail
import Derived.Deep.QuietTactic
import Derived.BigQuiet
import Derived.Deep.RegionWith
import Derived.Deep.DrawnRows
namespace Go.Proofs.YtkgkefifcpneiaaDoor
open Go.RowKit FieldP

/-- What a number that may be there comes to, as results. -/
def orZero : Option Nat → Int × Bool
  | some n => ((n : Int), true)
  | none => (0, false)
theorem or_shift {m x s : Nat} (hm : m < 2 ^ s) (h : 2 ^ s * x < 4294967296) (hm2 : m < 4294967296) : bits .or .u32 (m : Int) ((2 ^ s * x : Nat) : Int) = ((m + 2 ^ s * x : Nat) : Int) := by
  rw [u32_or_nat _ _ hm2 h, Nat.or_comm, ← Nat.two_pow_add_eq_or_of_lt hm, Nat.add_comm]
theorem or_byte {m : Nat} (x s : Nat) (hs : s ≤ 24) (hm : m < 2 ^ s) (hx : x < 256) : bits .or .u32 (m : Int) ((x : Int) * 2 ^ s) = ((m + 2 ^ s * x : Nat) : Int) := by
  have h1 : 2 ^ s ≤ 2 ^ 24 := Nat.pow_le_pow_right (by omega) hs
  have h2 : 2 ^ s * x ≤ 2 ^ 24 * 255 := Nat.mul_le_mul h1 (by omega)
  rw [← or_shift hm (by omega) (by omega)]
  congr 1
  rw [Nat.mul_comm, Int.natCast_mul, Int.natCast_pow]
  rfl
theorem or_byte0 {m x : Nat} (hm : m < 2 ^ 0) (hx : x < 256) : bits .or .u32 (m : Int) (x : Int) = ((m + 2 ^ 0 * x : Nat) : Int) := by
  have h := or_byte x 0 (by omega) hm hx
  rwa [Int.pow_zero, Int.mul_one] at h
theorem byteElem : Elem Tryd.prog 31 5 (.int .u8 0) 1 1 := Elem.of Tryd.underlying31 (by kernel_rfl) rfl (by omega)
theorem byteCells_snoc (bs : List UInt8) (n : Nat) : byteCells bs ++ [Value.int .u8 ((n : Int) % 256)] = byteCells (bs ++ [UInt8.ofNat n]) := by
  rw [byteCells_append, ← byte_cell]
  rfl
/-- Bytes that the call owns grow. -/
abbrev AppB (w : World) (base : Nat) (v : Value) (n : Nat) (bs : List UInt8) (w' : World) (v' : Value) : Prop := AppT w base 5 v n (byteCells bs) w' v'
/-- Bytes of the call's own. -/
abbrev OwnY (w : World) (base : Nat) (v : Value) (n : Nat) (bs : List UInt8) : Prop := OwnT w base 5 v n (byteCells bs)

theorem putN_one (n : Nat) : putN n 1 = [UInt8.ofNat n] := rfl
attribute [local go_sem ↓] Go.wp_at_zero Go.wp_at_succ
/-- Only block g was written, and blocks were made. -/
def Only (g : Nat) (w w' : World) : Prop := w.grownBy w' (some g)
theorem only_refl (g : Nat) (w : World) : Only g w w := World.grownBy.refl _ _
theorem only_drewN {g : Nat} {w w' : World} (h : Only g w w') (n : Nat) : Only g w (w'.drewN n) := ⟨h.os, h.tape, h.output, h.size, h.block⟩
theorem only_set {g : Nat} {w w' : World} (h : Only g w w') (i : Nat) (v : Value) : Only g w (w'.setCell ⟨g, i, none⟩ v) :=
  ⟨h.os, h.tape, h.output, by simpa [World.setCell] using h.size, fun k hk hne => (Below.heap_setCell w' _ v k (fun e => hne (by rw [e]))).trans (h.block k hk hne)⟩
theorem only_alloc {g : Nat} {w w' : World} (h : Only g w w') (o : Obj) : Only g w (w'.alloc o) :=
  ⟨h.os, h.tape, h.output, Nat.le_trans h.size (by simp), fun k hk hne => (Below.heap_alloc w' o k (Nat.lt_of_lt_of_le hk h.size)).trans (h.block k hk hne)⟩
theorem only_trans {g : Nat} {a b c : World} (h : Only g a b) (k : Only g b c) : Only g a c := World.grownBy.trans h k
theorem only_below {g B : Nat} {W w w' : World} (h : Only g w w') (hb : Below B W w) (hB : B ≤ w.heap.size) (hg : B ≤ g) : Below B W w' := hb.grown h hB (fun k hk => by injection hk; omega)
theorem Cells.only {g B : Nat} {w w' : World} {A : Option Addr} {xs : List Value} (h : Cells w B A xs) (ho : Only g w w') (hB : B ≤ w.heap.size) (hg : B ≤ g) : Cells w' B A xs :=
  h.below (only_below ho (Below.refl B w) hB hg) (Nat.le_refl _)
theorem quiet_left {P : Program} {f : FuncId} {args : Array Value} {w : World} {n : Nat} {v : Value}
    (h : Calls P f args (w.drewN n) fun e w' => e = .returned v ∧ w.drewN n = w') : Calls P f args (w.drewN n) fun e w'' => e = .returned v ∧ ∃ m, w'' = w.drewN m :=
  h.mono fun _ _ ⟨he, hm⟩ => ⟨he, n, hm.symm⟩
theorem Cells.drewN {w : World} {B : Nat} {A : Option Addr} {xs : List Value} (h : Cells w B A xs) (n : Nat) : Cells (w.drewN n) B A xs := h
end Go.Proofs.YtkgkefifcpneiaaDoor
