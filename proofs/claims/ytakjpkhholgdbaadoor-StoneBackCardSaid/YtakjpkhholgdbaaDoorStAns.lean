/- Layer 17: what stands at a place, of any bytes. -/
import Derived.Test.YtakjpkhholgdbaaDoorStRefF
namespace Go.Proofs.YtakjpkhholgdbaaDoor
open Go.RowKit CrcP FieldP

/-- What Take tells of a place of some bytes. -/
def stAns (bs : List UInt8) (p : Int) : Value :=
  if p < 0 ∨ (bs.length : Int) < p then .tuple #[.string ⟨#[]⟩, .int .i64 0, .int .i64 1]
  else if p + 4 ≤ bs.length ∧ isB tombBytes bs p = false then .tuple #[.string ⟨#[]⟩, .int .i64 0, .int .i64 3]
  else stV bs p.toNat
theorem stAns_form (bs : List UInt8) (p : Int) : ∃ S K E, stAns bs p = .tuple #[.string S, .int .i64 K, .int .i64 E] := by
  unfold stAns
  split
  · exact ⟨_, _, _, rfl⟩
  · split
    · exact ⟨_, _, _, rfl⟩
    · exact ⟨_, _, _, rfl⟩

theorem stTake_any (tg : Nat) (A : Option Addr) (l c : Nat) (bs : List UInt8) (B : Nat) (p : Int) (w : World) (hT : Table w tg) (hl : bs.length = l) (hm : l ≤ 1000) (hlc : l ≤ c)
    (hb : Bytes w B A bs) (hB : B ≤ w.heap.size) :
    Calls Tryd.prog 13 #[.pointer (some ⟨tg, 0, none⟩), .slice A l c, .int .i64 p] w fun e w' => e = .returned (stAns bs p) ∧ Below w.heap.size w w' := by
  by_cases h1 : p < 0 ∨ (bs.length : Int) < p
  · have e1 : stAns bs p = .tuple #[.string ⟨#[]⟩, .int .i64 0, .int .i64 1] := by unfold stAns; rw [if_pos h1]
    rw [e1]
    refine (stTake_arg tg A l c p w (by rw [← hl]; exact h1)).mono ?_
    rintro e w' ⟨rfl, rfl⟩
    exact ⟨rfl, Below.refl _ _⟩
  obtain ⟨q, rfl⟩ := Int.eq_ofNat_of_zero_le (show 0 ≤ p by omega)
  by_cases h2 : (q : Int) + 4 ≤ bs.length ∧ isB tombBytes bs q = false
  · have e1 : stAns bs q = .tuple #[.string ⟨#[]⟩, .int .i64 0, .int .i64 3] := by unfold stAns; rw [if_neg h1, if_pos h2]
    rw [e1]
    refine (stTake_form tg A l c bs B q w hl (by omega) hlc hb (by omega) h2.2).mono ?_
    rintro e w' ⟨rfl, rfl⟩
    exact ⟨rfl, Below.refl _ _⟩
  · have e1 : stAns bs q = stV bs q := by unfold stAns; rw [if_neg h1, if_neg h2, Int.toNat_natCast]
    rw [e1]
    exact stTake_ok tg A l c bs B q w hT hl (by omega) hlc hb hB (by omega) (fun h => by cases hi : isB tombBytes bs q with | true => rfl | false => exact absurd ⟨by omega, hi⟩ h2)

theorem refSt_any (A : Option Addr) (l c : Nat) (bs : List UInt8) (B : Nat) (p : Int) (w : World) (hl : bs.length = l) (hm : l ≤ 1000) (hlc : l ≤ c)
    (hb : Bytes w B A bs) (hB : B ≤ w.heap.size) :
    Calls Tryd.prog 14 #[.slice A l c, .int .i64 p] w fun e w' => e = .returned (stAns bs p) ∧ Below w.heap.size w w' := by
  by_cases h1 : p < 0 ∨ (bs.length : Int) < p
  · have e1 : stAns bs p = .tuple #[.string ⟨#[]⟩, .int .i64 0, .int .i64 1] := by unfold stAns; rw [if_pos h1]
    rw [e1]
    refine (refSt_arg A l c p w (by rw [← hl]; exact h1)).mono ?_
    rintro e w' ⟨rfl, rfl⟩
    exact ⟨rfl, Below.refl _ _⟩
  obtain ⟨q, rfl⟩ := Int.eq_ofNat_of_zero_le (show 0 ≤ p by omega)
  by_cases h2 : (q : Int) + 4 ≤ bs.length ∧ isB tombBytes bs q = false
  · have e1 : stAns bs q = .tuple #[.string ⟨#[]⟩, .int .i64 0, .int .i64 3] := by unfold stAns; rw [if_neg h1, if_pos h2]
    rw [e1]
    refine (refSt_form A l c bs B q w hl hlc hm hb (by omega) h2.2).mono ?_
    rintro e w' ⟨rfl, rfl⟩
    exact ⟨rfl, Below.refl _ _⟩
  have e1 : stAns bs q = stV bs q := by unfold stAns; rw [if_neg h1, if_neg h2, Int.toNat_natCast]
  rw [e1]
  by_cases h4 : l < q + 4
  · have e2 := stR_short (bs := bs) (p := q) (by omega)
    rw [stV_bad (by rw [e2]; decide), e2]
    refine (refSt_less A l c q w hlc (by omega) h4).mono ?_
    rintro e w' ⟨rfl, rfl⟩
    exact ⟨rfl, Below.refl _ _⟩
  have hi : isB tombBytes bs q = true := by cases hi : isB tombBytes bs q with | true => rfl | false => exact absurd ⟨by omega, hi⟩ h2
  by_cases h5 : l < q + 5
  · have e2 := stR_short (bs := bs) (p := q) (by omega)
    rw [stV_bad (by rw [e2]; decide), e2]
    refine (refSt_mid A l c bs B q w hl hlc hm hb (by omega) hi (.inl h5)).mono ?_
    rintro e w' ⟨rfl, rfl⟩
    exact ⟨rfl, Below.refl _ _⟩
  have hx : bs[q + 4]? = some (bs[q + 4]'(by omega)) := List.getElem?_eq_getElem _
  generalize bs[q + 4]'(by omega) = x at hx
  by_cases h9 : l < q + 9 + x.toNat
  · have e2 := stR_mid hx (by omega)
    rw [stV_bad (by rw [e2]; decide), e2]
    refine (refSt_mid A l c bs B q w hl hlc hm hb (by omega) hi (.inr ⟨x, hx, h9⟩)).mono ?_
    rintro e w' ⟨rfl, rfl⟩
    exact ⟨rfl, Below.refl _ _⟩
  · exact refSt_full A l c bs B q x w hl hlc hm hb hB hi hx (by omega)

set_option maxHeartbeats 400000 in
theorem stIs_any (A : Option Addr) (l c : Nat) (bs : List UInt8) (B : Nat) (p : Int) (w : World) (hl : bs.length = l) (hm : l ≤ 1000) (hlc : l ≤ c)
    (p0 : -9223372036854775808 ≤ p) (p1 : p ≤ 9223372036854775807) (hb : Bytes w B A bs) :
    Calls Tryd.prog 15 #[.slice A l c, .int .i64 p] w fun e w' => e = .returned (.bool (isB tombBytes bs p)) ∧ w = w' := by
  have HI := Lib.hid (is_any tombMark A l c bs B p w rfl hl (by omega) hlc p0 p1 hb)
  clear hl hb
  go_enter Tryd.func15, Tryd.ntmps15
  go_wp2_with (go_at_call 32; refine HI.out.mono ?_; rintro e w' ⟨rfl, rfl⟩)
  go_ret
  exact ⟨rfl, rfl⟩
end Go.Proofs.YtakjpkhholgdbaaDoor
