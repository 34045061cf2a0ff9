/- Layer 10: the laws MatchBests, MatchChains. -/
import Derived.Test.YtnkkdjnhnbiiaaaMbLaw
namespace Go.Proofs.Ytnkkdjnhnbiiaaa
open Go.RowKit Go.Shelf

def icZ (n : Int) : Value := .int .i64 n
set_option maxRecDepth 100000 in
set_option maxHeartbeats 2000000 in
theorem bests_law (A A2 : Option Addr) (l c l2 c2 : Nat) (bs : List UInt8) (zs : List Int) (depth : Int) (w : World) (hl : bs.length = l) (hcap : l ≤ c) (hb : Bytes w w.heap.size A bs) (hz : zs.length = l2) (hz2 : l2 ≤ 9223372036854775807) (hzs : Cells w w.heap.size A2 (zs.map icZ)) (hdp : -9223372036854775808 ≤ depth ∧ depth ≤ 9223372036854775807) :
    Calls Try.prog 4 #[.slice A l c, .slice A2 l2 c2, .int .i64 depth] w fun e w' => e = .returned (.bool true) ∧ Below w.heap.size w w' := by
  have HLV := Lib.hid (fun W : World => lives10_any W)
  by_cases h0 : 1500 < l
  · have t0 : decide ((1500 : Int) < (l : Int)) = true := decide_eq_true (by omega)
    clear h0 hb hzs
    go_enter Try.func4, Try.ntmps4
    go_wp2_with (go_at_call 7; refine (HLV.out _).mono ?_; rintro e w' ⟨rfl, hb2⟩; have HB2 := Lib.hid hb2; clear hb2)
    go_ret
    exact ⟨rfl, HB2.out⟩
  have t0 : decide ((1500 : Int) < (l : Int)) = false := decide_eq_false (by omega)
  by_cases h1 : 20 < l2
  · have t1 : decide ((20 : Int) < (l2 : Int)) = true := decide_eq_true (by omega)
    clear h0 h1 hb hzs
    go_enter Try.func4, Try.ntmps4
    go_wp2_with (go_at_call 7; refine (HLV.out _).mono ?_; rintro e w' ⟨rfl, hb2⟩; have HB2 := Lib.hid hb2; clear hb2)
    go_ret
    exact ⟨rfl, HB2.out⟩
  have t1 : decide ((20 : Int) < (l2 : Int)) = false := decide_eq_false (by omega)
  have t0' : decide (1500 < l) = false := decide_eq_false h0
  have t1' : decide (20 < l2) = false := decide_eq_false h1
  have HNE := Lib.hid (new_any A l c bs w.heap.size w hl (by omega) hcap hb (Nat.le_refl _))
  have HL := Lib.hid hl
  have HZ := Lib.hid hz
  have HBY := Lib.hid hb
  have HZS := Lib.hid hzs
  have hl5 : l ≤ 1500 := by omega
  clear hb hzs hl hz
  go_enter Try.func4, Try.ntmps4
  go_wp2_with (go_at_call 10; refine HNE.out.mono ?_; rintro e w2 ⟨rfl, hf, hb2⟩; have HF := Lib.hid hf; have HB2 := Lib.hid hb2; clear hf hb2)
  have HG1 : Hid (w.heap.size + 1 < w2.heap.size) := (Array.getElem?_eq_some_iff.1 HF.out.1).1
  have HG0 : Hid (w.heap.size < w2.heap.size) := by have := HG1.out; show _ < _; omega
  go_loopg [9] l2 (fun gk i wr => ∃ k : Nat, k + gk = l2 ∧ i = .int .i64 k ∧ Below w2.heap.size w2 wr)
  case atStart => exact ⟨0, by omega, rfl, Below.refl _ _⟩
  case round =>
    obtain ⟨k, hk, rfl, hbr⟩ := hrel
    have HBR := Lib.hid hbr
    clear hbr
    by_cases hkl : k < l2
    · obtain ⟨x, hx⟩ : ∃ x, zs[k]? = some x := ⟨_, List.getElem?_eq_getElem (by have := HZ.out; omega)⟩
      obtain ⟨n, hn⟩ : ∃ n, (bestM bs x depth).1 = n := ⟨_, rfl⟩
      obtain ⟨d, hd⟩ : ∃ d, (bestM bs x depth).2 = d := ⟨_, rfl⟩
      have q1 : ((n : Int) != (n : Int)) = false := by simp
      have q2 : ((d : Int) != (d : Int)) = false := by simp
      obtain ⟨b2, o2, hA2, hbB, hc0⟩ := HZS.out (by rw [List.length_map, HZ.out]; omega)
      have HCX : Hid (∀ Z, Below w2.heap.size w2 Z → Z.cell? ⟨b2, o2 + k, none⟩ = some (.int .i64 x)) := fun Z hZ =>
        ((HB2.out.trans (hZ.mono HB2.out.size)).cell (p := ⟨b2, o2 + k, none⟩) hbB).trans (hc0 k _ (by rw [List.getElem?_map, hx]; rfl))
      have HYZ : Hid (∀ Z, Below w2.heap.size w2 Z → Bytes Z w.heap.size A bs) := fun Z hZ => HBY.out.below (HB2.out.trans (hZ.mono HB2.out.size)) (Nat.le_refl _)
      have HF1 : Hid (∀ Z, Below w2.heap.size w2 Z → Calls Try.prog 11 #[.pointer (some ⟨w.heap.size + 1, 0, none⟩), .int .i64 x, .int .i64 depth] Z fun e w' => e = .returned (.tuple #[.int .i64 (n : Int), .int .i64 (d : Int)]) ∧ Below w2.heap.size w2 w') := fun Z hZ => by
        have h := find_any (w.heap.size + 1) w.heap.size A l c bs x depth Z HL.out (by omega) ((HYZ.out Z hZ).more (by have := hZ.size; have := HG0.out; omega)) (HF.out.below hZ HG1.out HG0.out) hdp.2 hdp.1
        rw [hn, hd] at h
        exact h.mono fun e w' h => ⟨h.1, hZ.trans (h.2.mono hZ.size)⟩
      have HF2 : Hid (∀ Z, Below w2.heap.size w2 Z → Calls Try.prog 12 #[.slice A l c, .int .i64 x, .int .i64 depth] Z fun e w' => e = .returned (.tuple #[.int .i64 (n : Int), .int .i64 (d : Int)]) ∧ Below w2.heap.size w2 w') := fun Z hZ => by
        have h := Best_any A l c bs x depth Z HL.out (by omega) hcap ((HYZ.out Z hZ).more (by have := hZ.size; have := HG0.out; omega)) hdp.2 hdp.1
        rw [hn, hd] at h
        exact h.mono fun e w' h => ⟨h.1, hZ.trans (h.2.mono hZ.size)⟩
      have HF3 : Hid (∀ Z, Below w2.heap.size w2 Z → Calls Try.prog 13 #[.slice A l c, .int .i64 x, .int .i64 depth] Z fun e w' => e = .returned (.tuple #[.int .i64 (n : Int), .int .i64 (d : Int)]) ∧ Below w2.heap.size w2 w') := fun Z hZ => by
        have h := rbest_any A l c bs x depth w.heap.size Z HL.out (by omega) (HYZ.out Z hZ) hdp
        rw [hn, hd] at h
        exact h.mono fun e w' ⟨h1, m, h2⟩ => ⟨h1, by rw [h2]; exact Below.drewN hZ m⟩
      have HF4 : Hid (∀ Z, Below w2.heap.size w2 Z → Calls Try.prog 14 #[.pointer none, .int .i64 x] Z fun e w' => ∃ A c, e = .returned (.slice A 0 c) ∧ Below w2.heap.size w2 w') := fun Z hZ =>
        (chain_nil x Z).mono fun e w' ⟨A, c, h1, h2⟩ => ⟨A, c, h1, hZ.trans (h2.mono hZ.size)⟩
      have HF5 := Lib.hid (fun Z => find_nil x depth Z)
      have x0 := HCX.out wr HBR.out
      subst hA2
      clear hn hd hc0 hx hbB
      go_wp2_with (first
        | (go_at_call 11; first | (refine (HF1.out _ HBR.out).mono ?_; clear HF1; rintro e w3 ⟨rfl, hb3⟩; have HB3 := Lib.hid hb3; have x3 := HCX.out w3 hb3; clear hb3) | (refine (HF5.out _).mono ?_; clear HF5; rintro e w' ⟨rfl, rfl⟩))
        | (go_at_call 12; refine (HF2.out _ HB3.out).mono ?_; rintro e w4 ⟨rfl, hb4⟩; have HB4 := Lib.hid hb4; have x4 := HCX.out w4 hb4; clear hb4)
        | (go_at_call 13; refine (HF3.out _ HB4.out).mono ?_; rintro e w5 ⟨rfl, hb5⟩; have HB5 := Lib.hid hb5; have x5 := HCX.out w5 hb5; clear hb5)
        | (go_at_call 14; refine (HF4.out _ HB5.out).mono ?_; rintro e w6 ⟨A6, c6, rfl, hb6⟩; have HB6 := Lib.hid hb6; clear hb6))
      go_roundg (gk - 1)
      case measure => omega
      case rel => exact ⟨k + 1, by omega, by go_num, HB6.out⟩
    · obtain rfl : k = l2 := by omega
      go_wp2_with (go_at_call 7; refine (HLV.out _).mono ?_; rintro e w' ⟨rfl, hb2⟩; have HB3 := Lib.hid hb2; clear hb2)
      go_ret
      exact ⟨rfl, HB2.out.trans ((HBR.out.trans (HB3.out.mono HBR.out.size)).mono HB2.out.size)⟩
end Go.Proofs.Ytnkkdjnhnbiiaaa
