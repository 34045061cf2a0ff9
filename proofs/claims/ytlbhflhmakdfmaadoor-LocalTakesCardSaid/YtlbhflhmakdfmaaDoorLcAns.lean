/- Layer 16: what head stands at a place, of any bytes. -/
import Derived.Test.YtlbhflhmakdfmaaDoorLcTake
namespace Go.Proofs.YtlbhflhmakdfmaaDoor
open Go.RowKit CrcP FieldP

/-- What local.Take tells of a place of some bytes. -/
def lcAns (bs : List UInt8) (p : Int) : Value :=
  if p < 0 ∨ (bs.length : Int) < p then .tuple #[.agg #[.int .i64 0, .string ⟨#[]⟩, .int .i64 0, .int .i64 0, .int .u32 0], .int .i64 0, .int .i64 1]
  else if p + 4 ≤ bs.length ∧ isB headBytes bs p = false then .tuple #[.agg #[.int .i64 0, .string ⟨#[]⟩, .int .i64 0, .int .i64 0, .int .u32 0], .int .i64 0, .int .i64 3]
  else lcV bs p.toNat
theorem lcAns_form (bs : List UInt8) (p : Int) : ∃ m S sz ar su K E, lcAns bs p = .tuple #[.agg #[.int .i64 m, .string S, .int .i64 sz, .int .i64 ar, .int .u32 su], .int .i64 K, .int .i64 E] := by
  unfold lcAns
  split
  · exact ⟨_, _, _, _, _, _, _, rfl⟩
  · split
    · exact ⟨_, _, _, _, _, _, _, rfl⟩
    · unfold lcV
      split
      · exact ⟨_, _, _, _, _, _, _, rfl⟩
      · exact ⟨_, _, _, _, _, _, _, rfl⟩
theorem lcTake_all (tg : Nat) (A : Option Addr) (l c : Nat) (bs : List UInt8) (B : Nat) (p : Int) (w : World) (hT : Table w tg) (hW : Wid w) (hl : bs.length = l) (hm : l ≤ 1099511627776) (hlc : l ≤ c)
    (hb : Bytes w B A bs) (hB : B ≤ w.heap.size) :
    Calls Tryd.prog 6 #[.pointer (some ⟨tg, 0, none⟩), .slice A l c, .int .i64 p] w fun e w' => e = .returned (lcAns bs p) ∧ Below w.heap.size w w' := by
  by_cases h1 : p < 0 ∨ (bs.length : Int) < p
  · have e1 : lcAns bs p = .tuple #[.agg #[.int .i64 0, .string ⟨#[]⟩, .int .i64 0, .int .i64 0, .int .u32 0], .int .i64 0, .int .i64 1] := by unfold lcAns; rw [if_pos h1]
    rw [e1]
    exact lcTake_arg tg A l c p w (by rw [← hl]; exact h1)
  obtain ⟨q, rfl⟩ := Int.eq_ofNat_of_zero_le (show 0 ≤ p by omega)
  by_cases h2 : (q : Int) + 4 ≤ bs.length ∧ isB headBytes bs q = false
  · have e1 : lcAns bs q = .tuple #[.agg #[.int .i64 0, .string ⟨#[]⟩, .int .i64 0, .int .i64 0, .int .u32 0], .int .i64 0, .int .i64 3] := by unfold lcAns; rw [if_neg h1, if_pos h2]
    rw [e1]
    exact lcTake_form tg A l c bs B q w hl hm hlc hb hB (by omega) h2.2
  · have e1 : lcAns bs q = lcV bs q := by unfold lcAns; rw [if_neg h1, if_neg h2, Int.toNat_natCast]
    rw [e1]
    exact lcTake_ok tg A l c bs B q w hT hW hl hm hlc hb hB (by omega) (fun h => by cases hi : isB headBytes bs q with | true => rfl | false => exact absurd ⟨by omega, hi⟩ h2)
end Go.Proofs.YtlbhflhmakdfmaaDoor
