/- Layer 9: Parts; the chapter's example. -/
import Derived.Test.YtbpgaaecifnohaaMgRunsTakes41
namespace Go.Proofs.Ytbpgaaecifnohaa
open Go.RowKit Go.Shelf

theorem cells_of_ownP {w : World} {base : Nat} {e : TypeId} {size : Nat} {A : Option Addr} {n c : Nat} {xs : List Value} (h : w.ownsRow base e size (.slice A n c) n xs) : Cells w w.heap.size A xs := fun hp => by
  obtain ⟨hlen, hor⟩ := h
  rcases hor with ⟨h1, h2⟩ | ⟨g, cap, cur, hv, _, hg, _, _, hcells⟩
  · subst h2; rw [Nat.zero_mul] at hlen; omega
  · injection hv with ha _ _
    refine ⟨g, 0, ha, (Array.getElem?_eq_some_iff.1 hg).1, fun j u hj => ?_⟩
    rw [Nat.zero_add, cell_of_row w g j _ _ _ hg]
    obtain ⟨_, ht⟩ := hcells
    rw [← ht, List.getElem?_take] at hj
    split at hj
    · rw [← Array.getElem?_toList]; exact hj
    · cases hj
theorem parts_few (ls : List Nat) : (partsP ls 0).length ≤ ls.length := by
  have := partsP_len ls ls.length 0 (by omega)
  omega
/-- Lengths, as they come in: right ones are numbers. -/
theorem right_nats : ∀ {zs : List Int}, zs.all lenB = true → ∃ ls : List Nat, zs = ls.map (fun n : Nat => (n : Int)) ∧ ls.length = zs.length ∧ ∀ x ∈ ls, x ≤ 15
  | [], _ => ⟨[], rfl, rfl, fun _ h => by cases h⟩
  | z :: zs, h => by
    rw [List.all_cons, Bool.and_eq_true] at h
    obtain ⟨ls, h1, h2, h3⟩ := right_nats h.2
    have h0 := h.1
    simp only [lenB, Bool.and_eq_true, decide_eq_true_eq] at h0
    refine ⟨z.toNat :: ls, ?_, by simp [h2], ?_⟩
    · rw [List.map_cons, ← h1, show ((z.toNat : Nat) : Int) = z by omega]
    · intro x hx
      rcases List.mem_cons.1 hx with rfl | hx
      · omega
      · exact h3 x hx
theorem nCs_ic (ls : List Nat) : (ls.map (fun n : Nat => (n : Int))).map ic = nCs ls := by
  rw [List.map_map]
  rfl
theorem all_right {ls : List Nat} (hv : ∀ x ∈ ls, x ≤ 15) : (ls.map (fun n : Nat => (n : Int))).all lenB = true := by
  rw [List.all_eq_true]
  intro x hx
  obtain ⟨n, hn, rfl⟩ := List.mem_map.1 hx
  have := hv n hn
  simp [lenB]
  omega
set_option maxHeartbeats 1000000 in
theorem rnparts_any (A : Option Addr) (l c : Nat) (ls : List Nat) (w : World) (hl : ls.length = l) (h1l : 1 ≤ l) (hm : l ≤ 320) (hv : ∀ x ∈ ls, x ≤ 15) (hb : Cells w w.heap.size A (nCs ls)) :
    Calls Try.prog 21 #[.slice A l c] w fun e w' => ∃ A' c', e = .returned (.slice A' (partsP ls 0).length c') ∧ Cells w' w'.heap.size A' ((partsP ls 0).map ptC).flatten ∧ Below w.heap.size w w' := by
  obtain ⟨W1, hW1⟩ : ∃ W1, w.alloc (.cells #[.slice A l c] 22) = W1 := ⟨_, rfl⟩
  have hz : W1.heap.size = w.heap.size + 1 := by rw [← hW1]; simp
  have hB1 : Below w.heap.size w W1 := by rw [← hW1]; exact (Below.refl _ w).alloc (Nat.le_refl _) _
  have h1 : Boxed W1 w.heap.size 22 (.slice A l c) := by rw [← hW1]; exact Boxed.new w _ _
  have hAB : ∀ a, A = some a → a.block < w.heap.size := fun a ha => by
    obtain ⟨b, o, hab, hbl, _⟩ := hb (by rw [nCs_len]; omega)
    rw [ha] at hab
    cases hab
    exact hbl
  have HR := Lib.hid (rightL_any A l c (ls.map (fun n : Nat => (n : Int))) w.heap.size w (by rw [List.length_map]; exact hl) (by omega) (by rw [nCs_ic]; exact hb))
  rw [all_right hv] at HR
  have HC := Lib.hid (parts_any A l c w)
  rw [hW1] at HC
  have HA := Lib.hid (appendSeq_any 49 #[.pointer (some ⟨w.heap.size, 0, none⟩)] (partsP ls 0) (by have := parts_few ls; omega) W1 (enters_of Try.func49 (by kernel_rfl) rfl)
    (fun Z hZ hsz ho => parts_seq W1.heap.size W1.heap.size w.heap.size A l c ls Z hl hm hv ((hb.below (hB1.trans (hZ.mono (by omega))) (Nat.le_refl _)).more (by have := hZ.size; omega)) hZ.size hsz (by omega) (fun a ha => by have := hAB a ha; omega) (fun k hk => by rw [ho] at hk; cases hk) ((hZ.block _ (by omega)).trans h1)))
  have HCO : Hid (Calls Try.prog 46 #[.func (.func 49) #[] #[.pointer (some ⟨w.heap.size, 0, none⟩)]] W1 fun e w' => ∃ v, e = .returned v ∧ w'.ownsRow W1.heap.size 54 2 v (partsP ls 0).length ((partsP ls 0).map ptC).flatten ∧ Below W1.heap.size W1 w') := by
    show Calls _ _ _ _ _
    generalize partsP ls 0 = L at HA ⊢
    clear hb
    go_enter Try.func46, Try.ntmps46
    go_wp2_with (go_at_call 70; refine HA.out.mono ?_; rintro e w5 ⟨v, rfl, ho, hb⟩; have HO := Lib.hid ho; have HBB := Lib.hid hb; clear ho hb)
    go_ret
    exact ⟨v, rfl, HO.out, HBB.out⟩
  have HB1 := Lib.hid hB1
  have HZ := Lib.hid hz
  have t1 : decide ((320 : Int) < (l : Int)) = false := decide_eq_false (by omega)
  clear hW1 hB1 h1 HA hz hb hl hv hAB
  generalize partsP ls 0 = L at HCO ⊢
  go_enter Try.func21, Try.ntmps21
  go_wp2_with (first
    | (go_at_call 23; refine HR.out.mono ?_; rintro e w' ⟨rfl, rfl⟩)
    | (go_at_call 24; refine HC.out.mono ?_; rintro e w' ⟨rfl, rfl⟩)
    | (go_at_call 46; refine HCO.out.mono ?_; rintro e w5 ⟨v, rfl, ho, hb⟩; have HO := Lib.hid ho; have HBB := Lib.hid hb; clear ho hb))
  go_ret
  obtain ⟨A', c', rfl⟩ := own_form' HO.out
  exact ⟨A', c', rfl, cells_of_ownP HO.out, HB1.out.trans (HBB.out.mono (by have := HZ.out; omega))⟩
theorem partsL : partsP [5, 5, 5, 5] 0 = [(5, 1), (16, 3)] := by
  rw [partsP_step (by decide), show numP [5, 5, 5, 5] 0 = 5 by decide, show manyP [5, 5, 5, 5] 0 = 1 by decide, partsP_step (by decide), show numP [5, 5, 5, 5] (0 + 1) = 16 by decide, show manyP [5, 5, 5, 5] (0 + 1) = 3 by decide, partsP_end (by decide)]
set_option maxHeartbeats 1000000 in
theorem lives9_any (w : World) : Calls Try.prog 6 #[] w fun e w' => e = .returned (.bool true) ∧ Below w.heap.size w w' := by
  obtain ⟨W1, hW1⟩ : ∃ W1, w.alloc (.cells #[.int .i64 5, .int .i64 5, .int .i64 5, .int .i64 5] 3) = W1 := ⟨_, rfl⟩
  have HZ1 : Hid (W1.heap.size = w.heap.size + 1) := by show _ = _; rw [← hW1]; simp
  have HB1 : Hid (Below w.heap.size w W1) := by show Below _ _ _; rw [← hW1]; exact (Below.refl _ w).alloc (Nat.le_refl _) _
  have hc : Cells W1 W1.heap.size (some ⟨w.heap.size, 0, none⟩) (nCs [5, 5, 5, 5]) := fun _ => ⟨w.heap.size, 0, rfl, by have := HZ1.out; omega, fun j u hj => by
    rw [Nat.zero_add, ← hW1, cell_of_row _ w.heap.size j _ _ _ (heap_alloc_new w _), ← Array.getElem?_toList]
    exact hj⟩
  have HS := Lib.hid (rnparts_any (some ⟨w.heap.size, 0, none⟩) 4 4 [5, 5, 5, 5] W1 rfl (by decide) (by decide) (by decide) hc)
  rw [partsL] at HS
  clear hc
  go_enter Try.func6, Try.ntmps6
  go_wp2_with (go_at_call 21; refine HS.out.mono ?_; rintro e w2 ⟨A2, c2, rfl, hcs, hb2⟩; obtain ⟨b2, o2, rfl, _, hc⟩ := hcs (by decide); have e0 : w2.cell? ⟨b2, o2, none⟩ = some (.int .i64 5) := hc 0 _ rfl; have e1 : w2.cell? ⟨b2, o2 + 1, none⟩ = some (.int .i64 1) := hc 1 _ rfl; have e2 : w2.cell? ⟨b2, o2 + 2, none⟩ = some (.int .i64 16) := hc 2 _ rfl; have e3 : w2.cell? ⟨b2, o2 + 2 + 1, none⟩ = some (.int .i64 3) := hc 3 _ rfl; have HB2 := Lib.hid hb2; clear hc hb2 hcs)
  go_ret
  exact ⟨rfl, HB1.out.trans (HB2.out.mono (by have := HZ1.out; omega))⟩
end Go.Proofs.Ytbpgaaecifnohaa
