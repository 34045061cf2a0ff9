/- Layer 21, plainly: what was put is taken; what is flipped shows. -/
import Derived.Test.YtpokicngpapkcaaSlTake
import Derived.Test.YtpokicngpapkcaaCrcRes
namespace Go.Proofs.Ytpokicngpapkcaa
open Go.RowKit CrcP FieldP
attribute [local go_sem ↓] Go.wp_at_zero Go.wp_at_succ

theorem take_flipAt (bs : List UInt8) (n p : Nat) (h : n ≤ bs.length) : (flipAt bs p).take n = flipAt (bs.take n) p := by
  unfold flipAt
  by_cases hn : p / 8 < n
  · obtain ⟨x, hx⟩ : ∃ x, bs[p / 8]? = some x := ⟨_, List.getElem?_eq_getElem (by omega)⟩
    rw [List.getElem?_take_of_lt hn, hx]
    simp only []
    rw [List.take_set]
  · have h1 : (bs.take n)[p / 8]? = none := by rw [List.getElem?_eq_none]; rw [List.length_take]; omega
    rw [h1]
    simp only []
    cases hx : bs[p / 8]? with
    | none => rfl
    | some x =>
      simp only []
      rw [List.take_set, List.set_eq_of_length_le (by rw [List.length_take]; omega)]
theorem take_flipK (bs : List UInt8) (n a m : Nat) (h : n ≤ bs.length) : ∀ k, (flipK bs a m k).take n = flipK (bs.take n) a m k
  | 0 => rfl
  | k + 1 => by
    rw [flipK, flipK]
    split
    · rw [take_flipAt _ _ _ (by rw [length_flipK]; exact h), take_flipK bs n a m h k]
    · exact take_flipK bs n a m h k

theorem flagN_lt (c : Bool) : flagN c < 2 := by cases c <;> decide
theorem slotB_take (q e d : Nat) (c : Bool) : (slotB q e d c).take 21 = sealed (slM q e d c) := by unfold slotB; exact app_take (by rw [sealed_length, slM_length])
theorem slotB_drop (q e d : Nat) (c : Bool) : (slotB q e d c).drop 21 = List.replicate 491 0 := by unfold slotB; exact app_drop (by rw [sealed_length, slM_length])
theorem slotB_parts (q e d : Nat) (c : Bool) : slotB q e d c = slMark ++ (putN q 4 ++ (putN e 4 ++ (putN d 4 ++ (putN (flagN c) 1 ++ (putN (sumN (slM q e d c)) 4 ++ List.replicate 491 0))))) := by
  unfold slotB sealed
  conv => lhs; rw [show slM q e d c ++ putN (sumN (slM q e d c)) 4 = (slMark ++ putN q 4 ++ putN e 4 ++ putN d 4 ++ putN (flagN c) 1) ++ putN (sumN (slM q e d c)) 4 from rfl]
  simp only [List.append_assoc]
theorem slot_back {q e d : Nat} {c : Bool} (h : slB q e d c = true) :
    slE (slotB q e d c) = 0 ∧ slN (slotB q e d c) 0 = q ∧ slN (slotB q e d c) 1 = e ∧ slN (slotB q e d c) 2 = d ∧ slF (slotB q e d c) = flagN c ∧ isB slMark (slotB q e d c) (0 : Nat) = true := by
  have hp : slP q e d c := of_decide_eq_true h
  obtain ⟨p1, p2, p3, p4, p5⟩ := hp
  have hd4 : d < 4294967296 := by
    cases c with
    | true => simp at p5; omega
    | false => simp at p5; omega
  have hX := slotB_parts q e d c
  have hsum := sumN_lt (slM q e d c)
  have d0 : (slotB q e d c).take 4 = slMark := by rw [hX]; exact app_take rfl
  have e0 : (slotB q e d c).drop 4 = putN q 4 ++ (putN e 4 ++ (putN d 4 ++ (putN (flagN c) 1 ++ (putN (sumN (slM q e d c)) 4 ++ List.replicate 491 0)))) := by rw [hX]; exact app_drop rfl
  have e1 : (slotB q e d c).drop 8 = putN e 4 ++ (putN d 4 ++ (putN (flagN c) 1 ++ (putN (sumN (slM q e d c)) 4 ++ List.replicate 491 0))) := by
    rw [show (8 : Nat) = 4 + 4 from rfl, ← List.drop_drop, e0]; exact app_drop (putN_length _ _)
  have e2 : (slotB q e d c).drop 12 = putN d 4 ++ (putN (flagN c) 1 ++ (putN (sumN (slM q e d c)) 4 ++ List.replicate 491 0)) := by
    rw [show (12 : Nat) = 8 + 4 from rfl, ← List.drop_drop, e1]; exact app_drop (putN_length _ _)
  have e3 : (slotB q e d c).drop 16 = putN (flagN c) 1 ++ (putN (sumN (slM q e d c)) 4 ++ List.replicate 491 0) := by
    rw [show (16 : Nat) = 12 + 4 from rfl, ← List.drop_drop, e2]; exact app_drop (putN_length _ _)
  have e4 : (slotB q e d c).drop 17 = putN (sumN (slM q e d c)) 4 ++ List.replicate 491 0 := by
    rw [show (17 : Nat) = 16 + 1 from rfl, ← List.drop_drop, e3]; exact app_drop (putN_length _ _)
  have f0 : slN (slotB q e d c) 0 = q := by
    unfold slN
    rw [show 4 + 4 * 0 = 4 from rfl, e0, app_take (putN_length _ _)]; exact val_put4 (by omega)
  have f1 : slN (slotB q e d c) 1 = e := by
    unfold slN
    rw [show 4 + 4 * 1 = 8 from rfl, e1, app_take (putN_length _ _)]; exact val_put4 (by omega)
  have f2 : slN (slotB q e d c) 2 = d := by
    unfold slN
    rw [show 4 + 4 * 2 = 12 from rfl, e2, app_take (putN_length _ _)]; exact val_put4 hd4
  have f3 : slF (slotB q e d c) = flagN c := by
    unfold slF
    rw [e3, app_take (putN_length _ _), val_putN]
    exact Nat.mod_eq_of_lt (show flagN c < 256 by have := flagN_lt c; omega)
  have g4 : val (((slotB q e d c).drop 17).take 4) = sumN ((slotB q e d c).take 17) := by
    have h17 : (slotB q e d c).take 17 = slM q e d c := by
      unfold slotB sealed
      rw [List.append_assoc]
      exact app_take (slM_length q e d c)
    rw [e4, app_take (putN_length _ _), val_put4 hsum, h17]
  have hg : slGood (slotB q e d c) = true := by
    unfold slGood
    rw [f0, f1, f2, f3, slotB_drop]
    have h1 : decide (flagN c = 1) = c := by cases c <;> decide
    have h2 : decide (flagN c ≤ 1) = true := by cases c <;> decide
    have h3 : (List.replicate 491 (0 : UInt8)).all (fun x => decide (x = 0)) = true := List.all_eq_true.2 (fun x hx => by rw [List.eq_of_mem_replicate hx]; rfl)
    rw [h1, h, h2, h3]
    rfl
  refine ⟨?_, f0, f1, f2, f3, ?_⟩
  · unfold slE
    rw [if_pos d0, if_pos g4, if_pos hg]
  · rw [isB_in (by rw [slotB_length]; decide)]
    exact decide_eq_true d0
theorem slV_back {q e d : Nat} {c : Bool} (h : slB q e d c = true) : slV (slotB q e d c) = .tuple #[.agg #[.int .i64 (q : Int), .int .i64 (e : Int), .int .i64 (d : Int), .bool c], .int .i64 0] := by
  obtain ⟨h0, h1, h2, h3, h4, _⟩ := slot_back h
  rw [slV_good h0, h1, h2, h3, h4]
  cases c <;> rfl
theorem slot_flip {q e d : Nat} {c : Bool} {a bits : Nat} (hne : slotB q e d c ≠ flipK (slotB q e d c) a bits 32) : slE (flipK (slotB q e d c) a bits 32) ≠ 0 := by
  intro h0
  apply hne
  obtain ⟨cs, hcs⟩ : ∃ cs, flipK (slotB q e d c) a bits 32 = cs := ⟨_, rfl⟩
  have ht : cs.take 21 = flipK (sealed (slM q e d c)) a bits 32 := by rw [← hcs, take_flipK _ _ _ _ (by rw [slotB_length]; omega), slotB_take]
  have hl : cs.length = 512 := by rw [← hcs, length_flipK, slotB_length]
  rw [hcs] at h0 ⊢
  unfold slE at h0
  split at h0
  · split at h0
    · rename_i hv
      split at h0
      · rename_i hg
        unfold slGood at hg
        rw [Bool.and_eq_true, Bool.and_eq_true] at hg
        have hz := hg.1.2
        have hz2 : cs.drop 21 = List.replicate 491 0 := by
          rw [List.eq_replicate_iff]
          refine ⟨by rw [List.length_drop, hl], fun x hx => ?_⟩
          have := List.all_eq_true.1 hz x hx
          exact of_decide_eq_true this
        have hb : sealed (slM q e d c) = flipK (sealed (slM q e d c)) a bits 32 := by
          refine burst_sealed (k := 17) (by rw [sealed_length, slM_length]) ?_
          rw [← ht, List.drop_take, List.take_take, List.take_take]
          rw [show min 4 (21 - 17) = 4 from rfl, show min 17 21 = 17 from rfl]
          exact hv
        rw [← List.take_append_drop 21 cs, ht, ← hb, hz2]
        rfl
      · cases h0
    · cases h0
  · cases h0
/-- Take, of any 512 bytes. -/
theorem slTake_all (tg : Nat) (A : Option Addr) (c : Nat) (bs : List UInt8) (B : Nat) (w : World) (hT : Table w tg) (hl : bs.length = 512) (hlc : 512 ≤ c) (hb : Bytes w B A bs) (hB : B ≤ w.heap.size) :
    Calls Try.prog 17 #[.pointer (some ⟨tg, 0, none⟩), .slice A 512 c] w fun e w' => e = .returned (slV bs) ∧ Below w.heap.size w w' := by
  cases hi : isB slMark bs (0 : Nat) with
  | true => exact slTake_ok tg A c bs B w hT hl hlc hb hB hi
  | false =>
    have h3 := slE_form hl hi
    have := slTake_form tg A c bs B w hl hlc hb hB hi
    rw [slV_bad (by rw [h3]; decide), h3]
    exact this
end Go.Proofs.Ytpokicngpapkcaa
