/- Layer 25: model.with, model.without, model.With, model.Without. -/
import Derived.Test.YtaneifmbjkolaaaDoorFiL
namespace Go.Proofs.YtaneifmbjkolaaaDoor
open Go.RowKit

set_option maxRecDepth 100000 in
set_option maxHeartbeats 2000000 in
theorem with25_some (b o : Nat) (l c : Nat) (fs : List Fi) (x : Fi) (B : Nat) (w : World) (hl : fs.length = l) (hlc : l ≤ c) (hm : l ≤ 100000) (hr : Ris Fi.nm fs) (hb : Files w B (some ⟨b, o, none⟩) fs) (hB : B ≤ w.heap.size) :
    Calls Tryd.prog 28 #[.slice (some ⟨b, o, none⟩) l c, .string x.nm, .slice x.ad x.data.length x.cp] w fun e w' => ∃ A' c', e = .returned (.slice A' (withK Fi.nm fs x).length c') ∧ w'.ownsRow w.heap.size 25 2 (.slice A' (withK Fi.nm fs x).length c') (withK Fi.nm fs x).length (fiCells (withK Fi.nm fs x)) ∧ Below w.heap.size w w' := by
  have HP := Lib.hid (placeF_any (some ⟨b, o, none⟩) l c fs x.nm B w hl (by omega) hr hb hB)
  obtain ⟨q, hq⟩ : ∃ q, hasK Fi.nm fs x.nm = q := ⟨_, rfl⟩
  obtain ⟨p, hp⟩ : ∃ p, posK Fi.nm fs x.nm = p := ⟨_, rfl⟩
  have hpl : p ≤ l := by have := posK_le (k := Fi.nm) fs x.nm; omega
  rw [hq, hp] at HP
  have mixed : Tryd.prog.follows Departure.mixedOrders = true := by kernel_rfl
  have hrow := hb.row.more hB
  cases q with
  | true =>
    obtain ⟨y, hy, _⟩ := hasK_there hr hq
    rw [hp] at hy
    have hpl2 : p + 1 ≤ l := by have := (List.getElem?_eq_some_iff.1 hy).1; omega
    have ew : withK Fi.nm fs x = fs.take p ++ x :: fs.drop (p + 1) := by
      rw [← put_there hr x hq, hp, List.set_eq_take_append_cons_drop, if_pos (by omega)]
    have HE := Lib.hid ew
    have hlen : (withK Fi.nm fs x).length = p + 1 + (l - (p + 1)) := by rw [ew, List.length_append, List.length_cons, List.length_take, List.length_drop]; omega
    obtain ⟨n, hn⟩ : ∃ n, (withK Fi.nm fs x).length = n := ⟨_, rfl⟩
    rw [hn] at hlen
    have HC := Lib.hid (fun (A3 : Option Addr) (n3 c3 : Nat) (h3 : n3 = l - (p + 1)) (hc3 : Cells w w.heap.size A3 (fiCells (fs.drop (p + 1)))) (w1 : World) (hb1 : Below w.heap.size w w1) => concat3_any (some ⟨b, o, none⟩) A3 p c n3 c3 (fs.take p) (fs.drop (p + 1)) x w w1 (by rw [List.length_take]; omega) (by rw [List.length_drop]; omega) (cells_takeF hrow p) hc3 (by omega) hb1 n (by omega))
    have HD := Lib.hid (cells_dropF hrow (p + 1))
    have HZ : Hid (l = p + 1 → ∀ A3, Cells w w.heap.size A3 (fiCells (fs.drop (p + 1)))) := fun hz A3 h => by rw [fi_len, List.length_drop] at h; omega
    have hw1 : IntKind.i64.wrap ((p : Int) + 1) = (p : Int) + 1 := IntWalk.i64_in _ (by omega)
    have hpc : p ≤ c := by omega
    rw [hn]
    clear hb hr hq hp hy ew hrow hlen
    by_cases hne : c = p + 1
    · subst hne
      obtain rfl : l = p + 1 := by omega
      have HY := HC.out (some ⟨b, o, none⟩) 0 0 (Nat.sub_self (p+1)).symm (HZ.out rfl (some ⟨b,o,none⟩))
      have HY2 := Lib.hid HY
      clear HY
      go_enter Tryd.func28, Tryd.ntmps28
      go_wp2_with (go_at_call 25; refine HP.out.mono ?_; rintro e w1 ⟨rfl, hb1⟩; have HB1 := Lib.hid hb1; clear hb1)
      go_region_with (go_at_call 37; refine (HY2.out w1 HB1.out).mono ?_; rintro e w2 ⟨A2, c2, rfl, ho2, hb2⟩; have HO2 := Lib.hid ho2; have HB2 := Lib.hid hb2; clear ho2 hb2)
      all_goals (go_wp2; go_ret; rw [HE.out]; exact ⟨A2, c2, rfl, HO2.out, HB2.out⟩)
    · go_enter Tryd.func28, Tryd.ntmps28
      go_wp2_with (go_at_call 25; refine HP.out.mono ?_; rintro e w1 ⟨rfl, hb1⟩; have HB1 := Lib.hid hb1; clear hb1)
      go_region_with (go_at_call 37; refine (HC.out _ _ _ rfl HD.out w1 HB1.out).mono ?_; rintro e w2 ⟨A2, c2, rfl, ho2, hb2⟩; have HO2 := Lib.hid ho2; have HB2 := Lib.hid hb2; clear ho2 hb2)
      all_goals (go_wp2; go_ret; rw [HE.out]; exact ⟨A2, c2, rfl, HO2.out, HB2.out⟩)
  | false =>
    have ew : withK Fi.nm fs x = fs.take p ++ x :: fs.drop p := by rw [← put_new hr x hq, hp]
    have HE := Lib.hid ew
    have hlen : (withK Fi.nm fs x).length = p + 1 + (l - p) := by rw [ew, List.length_append, List.length_cons, List.length_take, List.length_drop]; omega
    obtain ⟨n, hn⟩ : ∃ n, (withK Fi.nm fs x).length = n := ⟨_, rfl⟩
    rw [hn] at hlen
    have HC := Lib.hid (fun (A3 : Option Addr) (n3 c3 : Nat) (h3 : n3 = l - p) (hc3 : Cells w w.heap.size A3 (fiCells (fs.drop p))) (w1 : World) (hb1 : Below w.heap.size w w1) => concat3_any (some ⟨b, o, none⟩) A3 p c n3 c3 (fs.take p) (fs.drop p) x w w1 (by rw [List.length_take]; omega) (by rw [List.length_drop]; omega) (cells_takeF hrow p) hc3 (by omega) hb1 n (by omega))
    have HD := Lib.hid (cells_dropF hrow p)
    have HZ : Hid (l = p → ∀ A3, Cells w w.heap.size A3 (fiCells (fs.drop p))) := fun hz A3 h => by rw [fi_len, List.length_drop] at h; omega
    have hpc : p ≤ c := by omega
    rw [hn]
    clear hb hr hq hp ew hrow hlen
    by_cases hne : c = p
    · subst hne
      obtain rfl : l = c := by omega
      have HY := HC.out (some ⟨b, o, none⟩) 0 0 (Nat.sub_self l).symm (HZ.out rfl (some ⟨b,o,none⟩))
      have HY2 := Lib.hid HY
      clear HY
      go_enter Tryd.func28, Tryd.ntmps28
      go_wp2_with (go_at_call 25; refine HP.out.mono ?_; rintro e w1 ⟨rfl, hb1⟩; have HB1 := Lib.hid hb1; clear hb1)
      go_region_with (go_at_call 37; refine (HY2.out w1 HB1.out).mono ?_; rintro e w2 ⟨A2, c2, rfl, ho2, hb2⟩; have HO2 := Lib.hid ho2; have HB2 := Lib.hid hb2; clear ho2 hb2)
      all_goals (go_wp2; go_ret; rw [HE.out]; exact ⟨A2, c2, rfl, HO2.out, HB2.out⟩)
    · go_enter Tryd.func28, Tryd.ntmps28
      go_wp2_with (go_at_call 25; refine HP.out.mono ?_; rintro e w1 ⟨rfl, hb1⟩; have HB1 := Lib.hid hb1; clear hb1)
      go_region_with (go_at_call 37; refine (HC.out _ _ _ rfl HD.out w1 HB1.out).mono ?_; rintro e w2 ⟨A2, c2, rfl, ho2, hb2⟩; have HO2 := Lib.hid ho2; have HB2 := Lib.hid hb2; clear ho2 hb2)
      all_goals (go_wp2; go_ret; rw [HE.out]; exact ⟨A2, c2, rfl, HO2.out, HB2.out⟩)
set_option maxRecDepth 100000 in
set_option maxHeartbeats 2000000 in
theorem with25_none (x : Fi) (w : World) :
    Calls Tryd.prog 28 #[.slice none 0 0, .string x.nm, .slice x.ad x.data.length x.cp] w fun e w' => ∃ A' c', e = .returned (.slice A' 1 c') ∧ w'.ownsRow w.heap.size 25 2 (.slice A' 1 c') 1 (fiCells [x]) ∧ Below w.heap.size w w' := by
  have HP := Lib.hid (placeF_any none 0 0 [] x.nm w.heap.size w rfl (by omega) List.Pairwise.nil ⟨Cells.nil _ _ _, fun f hf => by cases hf⟩ (Nat.le_refl _))
  have hq : hasK Fi.nm [] x.nm = false := rfl
  have hp : posK Fi.nm [] x.nm = 0 := rfl
  rw [hq, hp] at HP
  have HC := Lib.hid (fun (w1 : World) (hb1 : Below w.heap.size w w1) => concat3_any none none 0 0 0 0 [] [] x w w1 rfl rfl (Cells.nil _ _ _) (Cells.nil _ _ _) (by omega) hb1 1 rfl)
  have mixed : Tryd.prog.follows Departure.mixedOrders = true := by kernel_rfl
  go_enter Tryd.func28, Tryd.ntmps28
  go_wp2_with (go_at_call 25; refine HP.out.mono ?_; rintro e w1 ⟨rfl, hb1⟩; have HB1 := Lib.hid hb1; clear hb1)
  go_region_with (go_at_call 37; refine (HC.out w1 HB1.out).mono ?_; rintro e w2 ⟨A2, c2, rfl, ho2, hb2⟩; have HO2 := Lib.hid ho2; have HB2 := Lib.hid hb2; clear ho2 hb2)
  all_goals (go_wp2; go_ret; exact ⟨A2, c2, rfl, HO2.out, HB2.out⟩)
end Go.Proofs.YtaneifmbjkolaaaDoor
