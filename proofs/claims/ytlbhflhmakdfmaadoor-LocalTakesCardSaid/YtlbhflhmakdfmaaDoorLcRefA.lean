/- Layer 16: the reference's Take over any place; Is. -/
import Derived.Test.YtlbhflhmakdfmaaDoorLcRefF
import Derived.Test.YtlbhflhmakdfmaaDoorLcAns
import Derived.Test.YtlbhflhmakdfmaaDoorLcLives
namespace Go.Proofs.YtlbhflhmakdfmaaDoor
open Go.RowKit CrcP FieldP

theorem refLc_any (A : Option Addr) (l c : Nat) (bs : List UInt8) (B : Nat) (p : Int) (w : World) (hl : bs.length = l) (hm : l ≤ 1000) (hlc : l ≤ c)
    (hb : Bytes w B A bs) (hB : B ≤ w.heap.size) :
    Calls Tryd.prog 7 #[.slice A l c, .int .i64 p] w fun e w' => e = .returned (lcAns bs p) ∧ Below w.heap.size w w' := by
  by_cases h1 : p < 0 ∨ (bs.length : Int) < p
  · have e1 : lcAns bs p = .tuple #[.agg #[.int .i64 0, .string ⟨#[]⟩, .int .i64 0, .int .i64 0, .int .u32 0], .int .i64 0, .int .i64 1] := by unfold lcAns; rw [if_pos h1]
    rw [e1]
    exact refLc_arg A l c p w (by rw [← hl]; exact h1)
  obtain ⟨q, rfl⟩ := Int.eq_ofNat_of_zero_le (show 0 ≤ p by omega)
  by_cases h2 : (q : Int) + 4 ≤ bs.length ∧ isB headBytes bs q = false
  · have e1 : lcAns bs q = .tuple #[.agg #[.int .i64 0, .string ⟨#[]⟩, .int .i64 0, .int .i64 0, .int .u32 0], .int .i64 0, .int .i64 3] := by unfold lcAns; rw [if_neg h1, if_pos h2]
    rw [e1]
    exact refLc_form A l c bs B q w hl hlc hm hb hB (by omega) h2.2
  have e1 : lcAns bs q = lcV bs q := by unfold lcAns; rw [if_neg h1, if_neg h2, Int.toNat_natCast]
  rw [e1]
  by_cases h4 : l < q + 4
  · have e2 := lcR_end (bs := bs) (p := q) (.inl (by omega))
    rw [lcV_bad (by rw [e2]; decide), e2]
    exact refLc_less A l c q w hlc (by omega) h4
  have hi : isB headBytes bs q = true := by cases hi : isB headBytes bs q with | true => rfl | false => exact absurd ⟨by omega, hi⟩ h2
  by_cases h5 : l < q + 18
  · have e2 := lcR_end (bs := bs) (p := q) (.inl (by omega))
    rw [lcV_bad (by rw [e2]; decide), e2]
    exact refLc_mid A l c bs B q w hl hlc hm hb hB (by omega) hi (.inl h5)
  have hx : bs[q + 5]? = some (bs[q + 5]'(by omega)) := List.getElem?_eq_getElem _
  generalize bs[q + 5]'(by omega) = x at hx
  by_cases h9 : l < q + 22 + x.toNat
  · have e2 := lcR_end (.inr ⟨x, hx, by omega⟩)
    rw [lcV_bad (by rw [e2]; decide), e2]
    exact refLc_mid A l c bs B q w hl hlc hm hb hB (by omega) hi (.inr ⟨x, by omega, hx, h9⟩)
  · exact refLc_full A l c bs B q x w hl hlc hm hb hB hi hx (by omega)

set_option maxHeartbeats 400000 in
theorem lcIs_any (A : Option Addr) (l c : Nat) (bs : List UInt8) (B : Nat) (p : Int) (w : World) (hl : bs.length = l) (hm : l ≤ 1000) (hlc : l ≤ c)
    (p0 : -9223372036854775808 ≤ p) (p1 : p ≤ 9223372036854775807) (hb : Bytes w B A bs) :
    Calls Tryd.prog 8 #[.slice A l c, .int .i64 p] w fun e w' => e = .returned (.bool (isB headBytes bs p)) ∧ w = w' := by
  have HI := Lib.hid (is_any headMark A l c bs B p w rfl hl (by omega) hlc p0 p1 hb)
  clear hl hb
  go_enter Tryd.func8, Tryd.ntmps8
  go_wp2_with (go_at_call 21; refine HI.out.mono ?_; rintro e w' ⟨rfl, rfl⟩)
  go_ret
  exact ⟨rfl, rfl⟩
end Go.Proofs.YtlbhflhmakdfmaaDoor
