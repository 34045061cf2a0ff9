/- member.Find: where a text stands in texts that rise. -/
import Derived.Test.YtmcblagpindncaaDoorMbO
namespace Go.Proofs.YtmcblagpindncaaDoor
open Go.RowKit

set_option maxHeartbeats 1000000 in
theorem find1_any (q2 q3 i : Nat) (A : Option Addr) (n c : Nat) (os : List (List UInt8)) (y : List UInt8) (s : ByteArray) (B : Nat) (w : World) (hn : os.length = n) (hm : n ≤ 1000000) (hy : os[i]? = some y) (hb : Cells w B A (textCells os)) (h2 : w.cell? ⟨q2, 0, none⟩ = some (.slice A n c)) (h3 : w.cell? ⟨q3, 0, none⟩ = some (.string s)) :
    Calls Tryd.prog 32 #[.int .i64 (i : Int), .pointer (some ⟨q2, 0, none⟩), .pointer (some ⟨q3, 0, none⟩)] w fun e w' => e = .returned (.bool (!ltN (kB y) s)) ∧ ∃ m, w.drewN m = w' := by
  have hil : i < n := by rw [← hn]; exact (List.getElem?_eq_some_iff.1 hy).1
  obtain ⟨b, o, rfl, hbB, hc⟩ := hb (by rw [text_len]; omega)
  have c0 := hc i _ (textCells_get hy)
  obtain ⟨sy, hsy⟩ : ∃ sy, (⟨y.toArray⟩ : ByteArray) = sy := ⟨_, rfl⟩
  rw [hsy] at c0
  rw [show kB y = sy from hsy]
  have hki : (i : Int) < (n : Int) := by omega
  clear hc hy hb hsy
  go_enter Tryd.func32, Tryd.ntmps32
  go_wp2
  go_quiet (fail)
  go_wp2
  go_ret
  exact ⟨rfl, _, rfl⟩
set_option maxHeartbeats 2000000 in
theorem search_any (q2 q3 : Nat) (A : Option Addr) (n c : Nat) (os : List (List UInt8)) (s : ByteArray) (B : Nat) (w : World) (hn : os.length = n) (hm : n ≤ 1000000) (hr : Ris kB os) (hb : Cells w B A (textCells os)) (h2 : w.cell? ⟨q2, 0, none⟩ = some (.slice A n c)) (h3 : w.cell? ⟨q3, 0, none⟩ = some (.string s)) :
    Calls Tryd.prog 31 #[.int .i64 (n : Int), .func (.func 32) #[] #[.pointer (some ⟨q2, 0, none⟩), .pointer (some ⟨q3, 0, none⟩)]] w fun e w' => e = .returned (.int .i64 ((posK kB os s : Nat) : Int)) ∧ ∃ m, w.drewN m = w' := by
  have HL := Lib.hid hn
  have HR := Lib.hid hr
  have HP := Lib.hid (posK_le (k := kB) os s)
  have HF := Lib.hid (fun (i : Nat) (y : List UInt8) (m : Nat) (hy : os[i]? = some y) => find1_any q2 q3 i A n c os y s B (w.drewN m) hn hm hy (hb.drewN' m) h2 h3)
  obtain ⟨p, hp⟩ : ∃ p, posK kB os s = p := ⟨_, rfl⟩
  have HPP := Lib.hid hp
  rw [hp] at HP ⊢
  clear hn hr hb h2 h3 hp
  go_enter Tryd.func31, Tryd.ntmps31
  go_wp2
  go_loopg [5, 6, 7] n (fun gk vi vj vh wr => ∃ i j m : Nat, j = i + gk ∧ i ≤ p ∧ p ≤ j ∧ j ≤ n ∧ vi = .int .i64 i ∧ vj = .int .i64 j ∧ wr = w.drewN m)
  case atStart => exact ⟨0, n, 0, by omega, by omega, by have := HP.out; have := HL.out; omega, Nat.le_refl _, rfl, rfl, rfl⟩
  case round =>
    obtain ⟨i, j, m, hj, h1, h2, h3, rfl, rfl, rfl⟩ := hrel
    by_cases h : i < j
    · obtain ⟨h', hh'⟩ : ∃ h', (i + j) / 2 = h' := ⟨_, rfl⟩
      have hlo : i ≤ h' := by omega
      have hhi : h' < j := by omega
      have hhl : h' < n := by omega
      obtain ⟨y, hx⟩ : ∃ x, os[h']? = some x := ⟨_, List.getElem?_eq_getElem (by have := HL.out; omega)⟩
      have HI := Lib.hid (posK_iff HR.out s h' y hx)
      rw [HPP.out] at HI
      have HC := Lib.hid (HF.out h' y m hx)
      have hq : ((i : Int) + (j : Int)) / 2 = (h' : Int) := by omega
      have hij : (i : Int) + (j : Int) < 9223372036854775808 := by omega
      have HJ := Lib.hid (show j = i + gk ∧ i ≤ p ∧ p ≤ j ∧ j ≤ n ∧ i ≤ h' ∧ h' < j from ⟨hj, h1, h2, h3, hlo, hhi⟩)
      obtain ⟨t, ht⟩ : ∃ t, ltN (kB y) s = t := ⟨_, rfl⟩
      rw [ht] at HI HC
      clear hx hj h1 h2 h3 hh' hlo hhi ht
      cases t with
      | true =>
        go_wp2_with (go_at_call 32; refine HC.out.mono ?_; rintro e w' ⟨rfl, m2, rfl⟩)
        go_roundg (j - (h' + 1))
        case measure => have := HJ.out; omega
        case rel => have h0 := HJ.out; have h1 := HI.out.1 trivial; exact ⟨h' + 1, j, _, by omega, by omega, by omega, by omega, by go_num, rfl, rfl⟩
      | false =>
        go_wp2_with (go_at_call 32; refine HC.out.mono ?_; rintro e w' ⟨rfl, m2, rfl⟩)
        go_roundg (h' - i)
        case measure => have := HJ.out; omega
        case rel =>
          have h0 := HJ.out
          have h1 : ¬ h' < p := fun hh => by have := HI.out.2 hh; cases this
          exact ⟨i, h', _, by omega, by omega, by omega, by omega, rfl, rfl, rfl⟩
    · obtain rfl : i = p := by omega
      obtain rfl : j = i := by omega
      clear h1 h2 h3 hj h
      go_wp2
      go_ret
      exact ⟨rfl, m, rfl⟩
set_option maxHeartbeats 2000000 in
theorem findM_any (A : Option Addr) (n c : Nat) (os : List (List UInt8)) (s : ByteArray) (B : Nat) (w : World) (hn : os.length = n) (hm : n ≤ 1000000) (hr : Ris kB os) (hb : Cells w B A (textCells os)) (hB : B ≤ w.heap.size) :
    Calls Tryd.prog 21 #[.slice A n c, .string s] w fun e w' => e = .returned (.tuple #[.int .i64 ((posK kB os s : Nat) : Int), .bool (hasK kB os s)]) ∧ Below w.heap.size w w' := by
  obtain ⟨W1, hW1⟩ : ∃ W1, w.alloc (.cells #[.slice A n c] 24) = W1 := ⟨_, rfl⟩
  obtain ⟨W2, hW2⟩ : ∃ W2, W1.alloc (.cells #[.string s] 9) = W2 := ⟨_, rfl⟩
  have hz1 : W1.heap.size = w.heap.size + 1 := by rw [← hW1]; simp
  have HB2 : Hid (Below w.heap.size w W2) := by show Below _ _ _; rw [← hW2, ← hW1]; exact ((Below.refl _ w).alloc (Nat.le_refl _) _).alloc (by simp) _
  have hx1 : Box W2 w.heap.size #[.slice A n c] 24 := by rw [← hW2]; refine Box.alloc ?_ _; rw [← hW1]; exact heap_alloc_new w _
  have hx2 : Box W2 (w.heap.size + 1) #[.string s] 9 := by rw [← hW2, ← hz1]; exact heap_alloc_new W1 _
  have c1 : W2.cell? ⟨w.heap.size, 0, none⟩ = some (.slice A n c) := hx1.cell 0
  have c2 : W2.cell? ⟨w.heap.size + 1, 0, none⟩ = some (.string s) := hx2.cell 0
  have HC := Lib.hid (hb.below HB2.out hB)
  have HS := Lib.hid (search_any w.heap.size (w.heap.size + 1) A n c os s B W2 hn hm hr HC.out c1 c2)
  have HL := Lib.hid hn
  have HR := Lib.hid hr
  have hpl := posK_le (k := kB) os s
  obtain ⟨p, hp⟩ : ∃ p, posK kB os s = p := ⟨_, rfl⟩
  have HPP := Lib.hid hp
  rw [hp] at HS hpl ⊢
  clear hn hr hb hB hp hx1 hx2
  by_cases hpn : p < n
  · obtain ⟨y, hy⟩ : ∃ x, os[p]? = some x := ⟨_, List.getElem?_eq_getElem (by have := HL.out; omega)⟩
    obtain ⟨b, o, rfl, hbB, hc⟩ := HC.out (by rw [text_len]; have := HL.out; omega)
    have c0 := hc p _ (textCells_get hy)
    have HH : Hid (hasK kB os s = decide (kB y = s)) := hasK_pos HR.out s y (by rw [HPP.out]; exact hy)
    have hpi : (p : Int) < (n : Int) := by omega
    obtain ⟨sy, hsy⟩ : ∃ sy, (⟨y.toArray⟩ : ByteArray) = sy := ⟨_, rfl⟩
    rw [hsy] at c0
    rw [show kB y = sy from hsy] at HH
    have he1 := nmEq_dec sy s
    obtain ⟨t, ht⟩ : ∃ t, decide (sy = s) = t := ⟨_, rfl⟩
    rw [ht] at HH he1
    have he2 : (sy.toList = s.toList) = (t = true) := by rw [← he1, beq_iff_eq]
    clear hc hy hsy ht hpl
    go_enter Tryd.func21, Tryd.ntmps21
    go_wp2_with fail
    try rw [hW1, hW2]
    refine HS.out.mono ?_
    rintro e w3 ⟨rfl, m, hw3⟩
    have d0 : w3.cell? ⟨b, o + p, none⟩ = some (.string sy) := by rw [← hw3]; exact c0
    have d1 : w3.cell? ⟨w.heap.size, 0, none⟩ = some (.slice (some ⟨b, o, none⟩) n c) := by rw [← hw3]; exact c1
    have d2 : w3.cell? ⟨w.heap.size + 1, 0, none⟩ = some (.string s) := by rw [← hw3]; exact c2
    have HB3 : Hid (Below w.heap.size w w3) := by show Below _ _ _; rw [← hw3]; exact Below.drewN HB2.out _
    clear c0 c1 c2 hw3
    cases t with
    | true =>
      simp only [eq_self, eq_iff_iff, iff_true] at he2
      go_wp2
      go_quiet (fail)
      go_wp2
      go_ret2
      exact ⟨by rw [HH.out]; rfl, Below.drewN HB3.out _⟩
    | false =>
      simp only [Bool.false_eq_true, eq_iff_iff, iff_false] at he2
      go_wp2
      go_quiet (fail)
      go_wp2
      go_ret2
      exact ⟨by rw [HH.out]; rfl, Below.drewN HB3.out _⟩
  · have HH : Hid (hasK kB os s = false) := hasK_end HR.out (by rw [HPP.out, HL.out]; have := HL.out; omega)
    have hpi : ¬ (p : Int) < (n : Int) := by omega
    clear hpl
    go_enter Tryd.func21, Tryd.ntmps21
    go_wp2_with fail
    try rw [hW1, hW2]
    refine HS.out.mono ?_
    rintro e w3 ⟨rfl, m, hw3⟩
    have d1 : w3.cell? ⟨w.heap.size, 0, none⟩ = some (.slice A n c) := by rw [← hw3]; exact c1
    have HB3 : Hid (Below w.heap.size w w3) := by show Below _ _ _; rw [← hw3]; exact Below.drewN HB2.out _
    clear c1 c2 hw3
    go_wp2
    go_quiet (fail)
    go_wp2
    go_ret2
    exact ⟨by rw [HH.out]; rfl, Below.drewN HB3.out _⟩
end Go.Proofs.YtmcblagpindncaaDoor
