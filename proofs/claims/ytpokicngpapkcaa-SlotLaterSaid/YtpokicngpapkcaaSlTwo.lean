/- Layer 21, plainly: which of two slots counts. -/
import Derived.Test.YtpokicngpapkcaaSlChoose
namespace Go.Proofs.Ytpokicngpapkcaa
open Go.RowKit CrcP FieldP

theorem splice_lo {α : Type} {L X : List α} (h : X.length = 512) : splice L 0 X = X ++ L.drop 512 := by
  unfold splice
  rw [List.take_zero, List.nil_append, Nat.zero_add, h]
theorem splice_hi {α : Type} {L X : List α} (hL : L.length = 1024) (h : X.length = 512) : splice L 512 X = L.take 512 ++ X := by
  unfold splice
  rw [h, List.drop_of_length_le (by omega), List.append_nil]
theorem halves_take {α : Type} {a b : List α} (h : a.length = 512) : (a ++ b).take 512 = a := by rw [← h]; exact List.take_left
theorem halves_drop {α : Type} {a b : List α} (h : a.length = 512) : (a ++ b).drop 512 = b := by rw [← h]; exact List.drop_left

section
variable {q e d q2 e2 d2 : Nat} {c c2 : Bool} (h : slB q e d c = true) (h2 : slB q2 e2 d2 c2 = true)
theorem ch_both1 (hq : q < q2) (h : slB q e d c = true) (h2 : slB q2 e2 d2 c2 = true) : chV (slotB q e d c ++ slotB q2 e2 d2 c2) = .tuple #[.agg #[.int .i64 (q2 : Int), .int .i64 (e2 : Int), .int .i64 (d2 : Int), .bool c2], .int .i64 0] := by
  obtain ⟨a0, a1, _⟩ := slot_back h
  obtain ⟨b0, b1, _⟩ := slot_back h2
  unfold chV
  rw [halves_take (slotB_length q e d c), halves_drop (slotB_length q e d c), if_pos ⟨b0, .inr (by rw [a1, b1]; exact hq)⟩]
  exact slV_back h2
theorem ch_both2 (hq : q < q2) (h : slB q e d c = true) (h2 : slB q2 e2 d2 c2 = true) : chV (slotB q2 e2 d2 c2 ++ slotB q e d c) = .tuple #[.agg #[.int .i64 (q2 : Int), .int .i64 (e2 : Int), .int .i64 (d2 : Int), .bool c2], .int .i64 0] := by
  obtain ⟨a0, a1, _⟩ := slot_back h
  obtain ⟨b0, b1, _⟩ := slot_back h2
  unfold chV
  rw [halves_take (slotB_length q2 e2 d2 c2), halves_drop (slotB_length q2 e2 d2 c2), if_neg (fun g => g.2.elim (fun x => x b0) (fun x => by rw [a1, b1] at x; omega)), if_pos b0]
  exact slV_back h2
theorem ch_one1 {st : List UInt8} (h : slB q e d c = true) (hs : slE st ≠ 0) : chV (slotB q e d c ++ st) = .tuple #[.agg #[.int .i64 (q : Int), .int .i64 (e : Int), .int .i64 (d : Int), .bool c], .int .i64 0] := by
  obtain ⟨a0, a1, _⟩ := slot_back h
  unfold chV
  rw [halves_take (slotB_length q e d c), halves_drop (slotB_length q e d c), if_neg (fun g => hs g.1), if_pos a0]
  exact slV_back h
theorem ch_one2 {st : List UInt8} (hl : st.length = 512) (h : slB q e d c = true) (hs : slE st ≠ 0) : chV (st ++ slotB q e d c) = .tuple #[.agg #[.int .i64 (q : Int), .int .i64 (e : Int), .int .i64 (d : Int), .bool c], .int .i64 0] := by
  obtain ⟨a0, a1, _⟩ := slot_back h
  unfold chV
  rw [halves_take hl, halves_drop hl, if_pos ⟨a0, .inl hs⟩]
  exact slV_back h
end
theorem place_even {q : Nat} (h : q % 2 = 0) : placeC (q : Int) = 0 ∧ placeC ((q : Int) + 1) = 512 := by
  have h1 : (q : Int).tmod 2 = 0 := by rw [Int.tmod_eq_emod_of_nonneg (by omega)]; omega
  have h2 : ¬ ((q : Int) + 1).tmod 2 = 0 := by rw [Int.tmod_eq_emod_of_nonneg (by omega)]; omega
  unfold placeC
  rw [if_pos h1, if_neg h2]
  exact ⟨rfl, rfl⟩
theorem place_odd {q : Nat} (h : ¬ q % 2 = 0) : placeC (q : Int) = 512 ∧ placeC ((q : Int) + 1) = 0 := by
  have h1 : ¬ (q : Int).tmod 2 = 0 := by rw [Int.tmod_eq_emod_of_nonneg (by omega)]; omega
  have h2 : ((q : Int) + 1).tmod 2 = 0 := by rw [Int.tmod_eq_emod_of_nonneg (by omega)]; omega
  unfold placeC
  rw [if_neg h1, if_pos h2]
  exact ⟨rfl, rfl⟩
end Go.Proofs.Ytpokicngpapkcaa
