/- Layer 25: where a name stands in a map. -/
import Derived.Test.YtaneifmbjkolaaaDoorFiM
import Derived.Test.YtaneifmbjkolaaaDoorCmpS
namespace Go.Proofs.YtaneifmbjkolaaaDoor
open Go.RowKit

set_option maxHeartbeats 1000000 in
theorem place1F_any (f : Fi) (s : ByteArray) (w : World) :
    Calls Tryd.prog 34 #[.agg #[.string f.nm, .slice f.ad f.data.length f.cp], .string s] w fun e w' => e = .returned (.int .i64 (cmpN f.nm s)) ∧ Below w.heap.size w w' := by
  have HN := Lib.hid (fun W => cmpS_any f.nm s W)
  have HB0 := fun o => Lib.hid ((Below.refl w.heap.size w).alloc (Nat.le_refl _) o)
  go_enter Tryd.func34, Tryd.ntmps34
  go_wp2_with (go_at_call 35; refine (HN.out _).mono ?_; rintro e w' ⟨rfl, rfl⟩)
  go_ret
  exact ⟨rfl, (HB0 _).out⟩
set_option maxRecDepth 100000 in
set_option maxHeartbeats 4000000 in
/-- slices.BinarySearchFunc of a list that rises. -/
theorem bsFi_any (A : Option Addr) (l c : Nat) (ms : List Fi) (s : ByteArray) (B : Nat) (w : World) (hl : ms.length = l) (hm : l ≤ 1099511627776) (hr : Ris Fi.nm ms) (hb : Cells w B A (fiCells ms)) (hB : B ≤ w.heap.size) :
    Calls Tryd.prog 33 #[.slice A l c, .string s, .func (.func 34) #[] #[]] w fun e w' => e = .returned (.tuple #[.int .i64 (posK Fi.nm ms s : Nat), .bool (hasK Fi.nm ms s)]) ∧ Below w.heap.size w w' := by
  have HC := Lib.hid hb
  have HL := Lib.hid hl
  have HFL := Lib.hid (fi_len ms)
  have HB := Lib.hid hB
  have HR := Lib.hid hr
  have HP := Lib.hid (posK_le (k := Fi.nm) ms s)
  have HN := Lib.hid (fun (f : Fi) W => place1F_any f s W)
  obtain ⟨p, hp⟩ : ∃ p, posK Fi.nm ms s = p := ⟨_, rfl⟩
  have HPP := Lib.hid hp
  rw [hp] at HP ⊢
  clear hb hl hB hr hp
  go_enter Tryd.func33, Tryd.ntmps33
  go_wp2
  go_loopg [9, 10, 11] l (fun gk vi vj vh wr => ∃ i j : Nat, j = i + gk ∧ i ≤ p ∧ p ≤ j ∧ j ≤ l ∧ vi = .int .i64 i ∧ vj = .int .i64 j ∧ Below w.heap.size w wr)
  case atStart => exact ⟨0, l, by omega, by omega, by have := HP.out; have := HL.out; omega, Nat.le_refl _, rfl, rfl, Below.refl _ _⟩
  case round =>
    obtain ⟨i, j, hj, h1, h2, h3, rfl, rfl, hbel⟩ := hrel
    have HBL := Lib.hid hbel
    clear hbel
    by_cases h : i < j
    · obtain ⟨h', hh'⟩ : ∃ h', (i + j) / 2 = h' := ⟨_, rfl⟩
      have hlo : i ≤ h' := by omega
      have hhi : h' < j := by omega
      have hhl : h' < l := by omega
      obtain ⟨m, hx⟩ : ∃ x, ms[h']? = some x := ⟨_, List.getElem?_eq_getElem (by have := HL.out; omega)⟩
      obtain ⟨b, o, rfl, hbB, hc⟩ := HC.out (by rw [HFL.out, HL.out]; omega)
      have hcw := fun j u hj => (HBL.out.cell (p := ⟨b, o + j, none⟩) (Nat.lt_of_lt_of_le hbB HB.out)).trans (hc j u hj); obtain ⟨c0, c1⟩ := fi_at hcw hx
      have HX := Lib.hid hx
      have HI := Lib.hid (posK_iff HR.out s h' m hx)
      rw [HPP.out] at HI
      have hq : ((i : Int) + (j : Int)) / 2 = (h' : Int) := by omega
      have hij : (i : Int) + (j : Int) < 9223372036854775808 := by omega
      have HJ := Lib.hid (show j = i + gk ∧ i ≤ p ∧ p ≤ j ∧ j ≤ l ∧ i ≤ h' ∧ h' < j from ⟨hj, h1, h2, h3, hlo, hhi⟩)
      obtain ⟨t, ht⟩ : ∃ t, ltN m.nm s = t := ⟨_, rfl⟩
      rw [ht] at HI
      have HCM : Hid (∀ W, Calls Tryd.prog 34 #[.agg #[.string m.nm, .slice m.ad m.data.length m.cp], .string s] W fun e w' => ∃ r, e = .returned (.int .i64 r) ∧ decide (r < 0) = t ∧ Below W.heap.size W w') := fun W =>
        (HN.out m W).mono fun _ _ ⟨h1, h2⟩ => ⟨_, h1, by rw [cmpN_lt]; exact ht, h2⟩
      clear hcw hc hx hj h1 h2 h3 hh' hlo hhi ht
      cases t with
      | true =>
        go_wp2_with (go_at_call 34; refine (HCM.out _).mono ?_; rintro e w' ⟨r, rfl, hr0, hbel⟩; have HBL1 := Lib.hid (HBL.out.trans (hbel.mono HBL.out.size)); clear hbel)
        go_roundg (j - (h' + 1))
        case measure => have := HJ.out; omega
        case rel => have h0 := HJ.out; have h1 := HI.out.1 trivial; exact ⟨h' + 1, j, by omega, by omega, by omega, by omega, by go_num, rfl, HBL1.out⟩
      | false =>
        go_wp2_with (go_at_call 34; refine (HCM.out _).mono ?_; rintro e w' ⟨r, rfl, hr0, hbel⟩; have HBL1 := Lib.hid (HBL.out.trans (hbel.mono HBL.out.size)); clear hbel)
        go_roundg (h' - i)
        case measure => have := HJ.out; omega
        case rel =>
          have h0 := HJ.out
          have h1 : ¬ h' < p := fun hh => by have := HI.out.2 hh; cases this
          exact ⟨i, h', by omega, by omega, by omega, by omega, rfl, rfl, HBL1.out⟩
    · obtain rfl : i = p := by omega
      obtain rfl : j = i := by omega
      by_cases hjl : j < l
      · obtain ⟨m, hx⟩ : ∃ x, ms[j]? = some x := ⟨_, List.getElem?_eq_getElem (by have := HL.out; omega)⟩
        obtain ⟨b, o, rfl, hbB, hc⟩ := HC.out (by rw [HFL.out, HL.out]; omega)
        have hcw := fun j u hj => (HBL.out.cell (p := ⟨b, o + j, none⟩) (Nat.lt_of_lt_of_le hbB HB.out)).trans (hc j u hj); obtain ⟨c0, c1⟩ := fi_at hcw hx
        have HH : Hid (hasK Fi.nm ms s = decide (m.nm = s)) := hasK_pos HR.out s m (by rw [HPP.out]; exact hx)
        have HCM : Hid (∀ W, Calls Tryd.prog 34 #[.agg #[.string m.nm, .slice m.ad m.data.length m.cp], .string s] W fun e w' => ∃ r, e = .returned (.int .i64 r) ∧ (r == 0) = decide (m.nm = s) ∧ Below W.heap.size W w') := fun W =>
          (HN.out m W).mono fun _ _ ⟨h1, h2⟩ => ⟨_, h1, cmpN_eq _ _, h2⟩
        obtain ⟨t, ht⟩ : ∃ t, decide (m.nm = s) = t := ⟨_, rfl⟩
        rw [ht] at HCM HH
        clear hcw hc hx ht h1 h2 h3 hj h
        go_wp2_with (go_at_call 34; refine (HCM.out _).mono ?_; rintro e w' ⟨r, rfl, hr0, hbel⟩; have HBL1 := Lib.hid (HBL.out.trans (hbel.mono HBL.out.size)); clear hbel)
        go_ret2
        exact ⟨by rw [HH.out]; simp, HBL1.out⟩
      · have HH : Hid (hasK Fi.nm ms s = false) := hasK_end HR.out (by rw [HPP.out, HL.out]; omega)
        obtain rfl : j = l := by omega
        clear h1 h2 h3 hj h hjl
        go_wp2
        go_ret2
        exact ⟨by rw [HH.out]; rfl, HBL.out⟩

set_option maxHeartbeats 1000000 in
theorem placeF_any (A : Option Addr) (l c : Nat) (fs : List Fi) (s : ByteArray) (B : Nat) (w : World) (hl : fs.length = l) (hm : l ≤ 1000000) (hr : Ris Fi.nm fs) (hb : Files w B A fs) (hB : B ≤ w.heap.size) :
    Calls Tryd.prog 25 #[.slice A l c, .string s] w fun e w' => e = .returned (.tuple #[.int .i64 (posK Fi.nm fs s : Nat), .bool (hasK Fi.nm fs s)]) ∧ Below w.heap.size w w' := by
  have HBS := Lib.hid (bsFi_any A l c fs s B w hl (by omega) hr hb.row hB)
  clear hb hr
  go_enter Tryd.func25, Tryd.ntmps25
  go_wp2_with (go_at_call 33; refine HBS.out.mono ?_; rintro e w1 ⟨rfl, hb1⟩; have HB1 := Lib.hid hb1; clear hb1)
  go_ret2
  exact ⟨rfl, HB1.out⟩
end Go.Proofs.YtaneifmbjkolaaaDoor
