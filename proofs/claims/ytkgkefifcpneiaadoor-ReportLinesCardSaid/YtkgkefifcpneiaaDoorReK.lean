/- Layer 33: the words: kinds and codes, a word at a place, where a word stands; the reference's. -/
import Derived.Test.YtkgkefifcpneiaaDoorMemR
import Derived.Test.YtkgkefifcpneiaaDoorLists
import Derived.Test.YtkgkefifcpneiaaDoorNmP
import Derived.WalkMore
import Derived.Deep.Cut
import Derived.Deep.DeepCutAuto
import Derived.Deep.LoopGhost
namespace Go.Proofs.YtkgkefifcpneiaaDoor
open Go.RowKit

def strCells (l : List ByteArray) : List Value := l.map Value.string
theorem str_len (l : List ByteArray) : (strCells l).length = l.length := by unfold strCells; rw [List.length_map]
theorem str_get {l : List ByteArray} {k : Nat} {x : ByteArray} (h : l[k]? = some x) : (strCells l)[k]? = some (.string x) := by unfold strCells; rw [List.getElem?_map, h]; rfl
def kindL : List ByteArray := [⟨#[99, 114, 101, 97, 116, 101]⟩, ⟨#[111, 112, 101, 110]⟩, ⟨#[112, 117, 116]⟩, ⟨#[98, 101, 103, 105, 110]⟩, ⟨#[119, 114, 105, 116, 101]⟩, ⟨#[102, 105, 110, 105, 115, 104]⟩, ⟨#[97, 98, 111, 114, 116]⟩, ⟨#[103, 101, 116]⟩, ⟨#[115, 116, 97, 116]⟩, ⟨#[108, 105, 115, 116]⟩, ⟨#[100, 101, 108, 101, 116, 101]⟩, ⟨#[115, 121, 110, 99]⟩, ⟨#[118, 97, 99, 117, 117, 109]⟩, ⟨#[99, 108, 111, 115, 101]⟩, ⟨#[118, 101, 114, 105, 102, 121]⟩, ⟨#[114, 101, 102, 117, 115, 101]⟩, ⟨#[99, 117, 116]⟩, ⟨#[99, 114, 97, 115, 104]⟩]
def codeL : List ByteArray := [⟨#[111, 107]⟩, ⟨#[97, 114, 103]⟩, ⟨#[101, 110, 100]⟩, ⟨#[102, 111, 114, 109]⟩, ⟨#[115, 117, 109]⟩, ⟨#[115, 105, 122, 101]⟩, ⟨#[110, 97, 109, 101]⟩, ⟨#[110, 111, 116, 102, 111, 117, 110, 100]⟩, ⟨#[98, 117, 115, 121]⟩, ⟨#[110, 111, 115, 112, 97, 99, 101]⟩, ⟨#[105, 111]⟩, ⟨#[112, 111, 105, 115, 111, 110, 101, 100]⟩, ⟨#[99, 108, 111, 115, 101, 100]⟩, ⟨#[99, 111, 100, 101, 115]⟩, ⟨#[108, 105, 109, 105, 116]⟩, ⟨#[110, 111, 115, 116, 114, 101, 97, 109]⟩, ⟨#[101, 120, 105, 115, 116, 115]⟩]
def noneS : ByteArray := ⟨#[110, 111, 110, 101]⟩
def otherS : ByteArray := ⟨#[111, 116, 104, 101, 114]⟩
/-- The word at a place, or another one. -/
def pickS (l : List ByteArray) (at_ : Int) (other : ByteArray) : ByteArray := if at_ < 0 then other else (l[at_.toNat]?).getD other
theorem pickS_out {l : List ByteArray} {i : Int} (o : ByteArray) (h : i < 0 ∨ (l.length : Int) ≤ i) : pickS l i o = o := by
  unfold pickS
  split
  · rfl
  · rw [List.getElem?_eq_none (by omega)]; rfl
theorem pickS_in {l : List ByteArray} {k : Nat} {x : ByteArray} (o : ByteArray) (h : l[k]? = some x) : pickS l (k : Int) o = x := by
  unfold pickS
  rw [if_neg (by omega), Int.toNat_natCast, h]
  rfl
set_option maxHeartbeats 800000 in
theorem kinds33_any (w : World) : Calls Tryd.prog 22 #[] w fun e w' => e = .returned (.slice (some ⟨w.heap.size, 0, none⟩) 18 18) ∧ Cells w' w'.heap.size (some ⟨w.heap.size, 0, none⟩) (strCells kindL) ∧ Below w.heap.size w w' := by
  obtain ⟨W1, hW1⟩ : ∃ W1, w.alloc (.cells (strCells kindL).toArray 9) = W1 := ⟨_, rfl⟩
  have HB1 : Hid (Below w.heap.size w W1) := by show Below _ _ _; rw [← hW1]; exact (Below.refl _ w).alloc (Nat.le_refl _) _
  have hx1 : W1.heap[w.heap.size]? = some (.cells (strCells kindL).toArray 9) := by rw [← hW1]; exact heap_alloc_new w _
  have HC : Hid (Cells W1 W1.heap.size (some ⟨w.heap.size, 0, none⟩) (strCells kindL)) := fun _ =>
    ⟨w.heap.size, 0, rfl, (Array.getElem?_eq_some_iff.1 hx1).1, fun j u hu => by
      rw [Nat.zero_add, cell_of_row W1 _ j _ _ _ hx1, ← Array.getElem?_toList]
      exact hu⟩
  clear hx1
  have HW := Lib.hid hW1
  clear hW1
  go_enter Tryd.func22, Tryd.ntmps22
  go_wp2
  go_ret
  rw [show w.alloc (.cells #[.string ⟨#[99, 114, 101, 97, 116, 101]⟩, .string ⟨#[111, 112, 101, 110]⟩, .string ⟨#[112, 117, 116]⟩, .string ⟨#[98, 101, 103, 105, 110]⟩, .string ⟨#[119, 114, 105, 116, 101]⟩, .string ⟨#[102, 105, 110, 105, 115, 104]⟩, .string ⟨#[97, 98, 111, 114, 116]⟩, .string ⟨#[103, 101, 116]⟩, .string ⟨#[115, 116, 97, 116]⟩, .string ⟨#[108, 105, 115, 116]⟩, .string ⟨#[100, 101, 108, 101, 116, 101]⟩, .string ⟨#[115, 121, 110, 99]⟩, .string ⟨#[118, 97, 99, 117, 117, 109]⟩, .string ⟨#[99, 108, 111, 115, 101]⟩, .string ⟨#[118, 101, 114, 105, 102, 121]⟩, .string ⟨#[114, 101, 102, 117, 115, 101]⟩, .string ⟨#[99, 117, 116]⟩, .string ⟨#[99, 114, 97, 115, 104]⟩] 9) = W1 from HW.out]
  exact ⟨rfl, HC.out, HB1.out⟩
set_option maxHeartbeats 800000 in
theorem codes33_any (w : World) : Calls Tryd.prog 23 #[] w fun e w' => e = .returned (.slice (some ⟨w.heap.size, 0, none⟩) 17 17) ∧ Cells w' w'.heap.size (some ⟨w.heap.size, 0, none⟩) (strCells codeL) ∧ Below w.heap.size w w' := by
  obtain ⟨W1, hW1⟩ : ∃ W1, w.alloc (.cells (strCells codeL).toArray 9) = W1 := ⟨_, rfl⟩
  have HB1 : Hid (Below w.heap.size w W1) := by show Below _ _ _; rw [← hW1]; exact (Below.refl _ w).alloc (Nat.le_refl _) _
  have hx1 : W1.heap[w.heap.size]? = some (.cells (strCells codeL).toArray 9) := by rw [← hW1]; exact heap_alloc_new w _
  have HC : Hid (Cells W1 W1.heap.size (some ⟨w.heap.size, 0, none⟩) (strCells codeL)) := fun _ =>
    ⟨w.heap.size, 0, rfl, (Array.getElem?_eq_some_iff.1 hx1).1, fun j u hu => by
      rw [Nat.zero_add, cell_of_row W1 _ j _ _ _ hx1, ← Array.getElem?_toList]
      exact hu⟩
  clear hx1
  have HW := Lib.hid hW1
  clear hW1
  go_enter Tryd.func23, Tryd.ntmps23
  go_wp2
  go_ret
  rw [show w.alloc (.cells #[.string ⟨#[111, 107]⟩, .string ⟨#[97, 114, 103]⟩, .string ⟨#[101, 110, 100]⟩, .string ⟨#[102, 111, 114, 109]⟩, .string ⟨#[115, 117, 109]⟩, .string ⟨#[115, 105, 122, 101]⟩, .string ⟨#[110, 97, 109, 101]⟩, .string ⟨#[110, 111, 116, 102, 111, 117, 110, 100]⟩, .string ⟨#[98, 117, 115, 121]⟩, .string ⟨#[110, 111, 115, 112, 97, 99, 101]⟩, .string ⟨#[105, 111]⟩, .string ⟨#[112, 111, 105, 115, 111, 110, 101, 100]⟩, .string ⟨#[99, 108, 111, 115, 101, 100]⟩, .string ⟨#[99, 111, 100, 101, 115]⟩, .string ⟨#[108, 105, 109, 105, 116]⟩, .string ⟨#[110, 111, 115, 116, 114, 101, 97, 109]⟩, .string ⟨#[101, 120, 105, 115, 116, 115]⟩] 9) = W1 from HW.out]
  exact ⟨rfl, HC.out, HB1.out⟩
set_option maxHeartbeats 800000 in
theorem pick33_any (A : Option Addr) (l c : Nat) (ss : List ByteArray) (i : Int) (o : ByteArray) (B : Nat) (w : World) (hl : ss.length = l) (hm : l ≤ 1000) (hb : Cells w B A (strCells ss)) :
    Calls Tryd.prog 21 #[.slice A l c, .int .i64 i, .string o] w fun e w' => e = .returned (.string (pickS ss i o)) ∧ w = w' := by
  by_cases h0 : i < 0
  · have hd0 : decide (i < 0) = true := by simp [h0]
    have HP : Hid (pickS ss i o = o) := pickS_out o (.inl h0)
    clear h0
    go_enter Tryd.func21, Tryd.ntmps21
    go_wp2
    go_ret
    exact ⟨by rw [HP.out]; rfl, rfl⟩
  · have hd0 : decide (i < 0) = false := by simp; omega
    by_cases h1 : (l : Int) ≤ i
    · have hd1 : decide ((l : Int) ≤ i) = true := by simp [h1]
      have HP : Hid (pickS ss i o = o) := pickS_out o (.inr (by omega))
      clear h0 h1
      go_enter Tryd.func21, Tryd.ntmps21
      go_wp2
      go_ret
      exact ⟨by rw [HP.out]; rfl, rfl⟩
    · obtain ⟨k, rfl⟩ : ∃ k : Nat, i = (k : Int) := ⟨i.toNat, by omega⟩
      obtain ⟨x, hx⟩ : ∃ x, ss[k]? = some x := ⟨_, List.getElem?_eq_getElem (by omega)⟩
      have hd1 : decide ((l : Int) ≤ (k : Int)) = false := by simp; omega
      have hkl : k < l := by omega
      have HP : Hid (pickS ss (k : Int) o = x) := pickS_in o hx
      obtain ⟨b, q, rfl, _, hc⟩ := hb (by rw [str_len]; omega)
      have c0 := hc k _ (str_get hx)
      clear h0 h1 hc hb hx
      go_enter Tryd.func21, Tryd.ntmps21
      go_wp2
      go_ret
      exact ⟨by rw [HP.out]; rfl, rfl⟩
/-- Where a word stands first. -/
def Placed (ss : List ByteArray) (s : ByteArray) (k : Int) (b : Bool) : Prop := (b = false ∧ k = 0 ∧ ∀ j : Nat, ss[j]? ≠ some s) ∨ (b = true ∧ ∃ j : Nat, k = (j : Int) ∧ ss[j]? = some s)
set_option maxHeartbeats 1000000 in
theorem place33_any (A : Option Addr) (l c : Nat) (ss : List ByteArray) (s : ByteArray) (B : Nat) (w : World) (hl : ss.length = l) (hm : l ≤ 1000) (hb : Cells w B A (strCells ss)) :
    Calls Tryd.prog 24 #[.slice A l c, .string s] w fun e w' => ∃ k b, e = .returned (.tuple #[.int .i64 k, .bool b]) ∧ Placed ss s k b ∧ w = w' := by
  have HF := Lib.hid hb
  have HL := Lib.hid hl
  clear hb hl
  go_enter Tryd.func24, Tryd.ntmps24
  go_wp2
  go_step3
  go_wp2
  go_step3
  go_wp2
  go_loopg [6, 7, 12] l (fun gk x y i wr => ∃ k : Nat, k + gk = l ∧ x = .int .i64 0 ∧ y = .bool false ∧ i = .int .i64 (k : Int) ∧ wr = w ∧ ∀ j : Nat, j < k → ss[j]? ≠ some s)
  case atStart => exact ⟨0, by omega, rfl, rfl, rfl, rfl, fun j hj => absurd hj (Nat.not_lt_zero _)⟩
  case round =>
    obtain ⟨k, hk, rfl, rfl, rfl, rfl, hall⟩ := hrel
    have HA := Lib.hid hall
    clear hall
    by_cases h : k < l
    · obtain ⟨x, hx⟩ : ∃ x, ss[k]? = some x := ⟨_, List.getElem?_eq_getElem (by have := HL.out; omega)⟩
      obtain ⟨b, o, rfl, _, hc⟩ := HF.out (by rw [str_len]; have := HL.out; omega)
      have c0 := hc k _ (str_get hx)
      have hki : (k : Int) < (l : Int) := by omega
      have hw1 : IntKind.i64.wrap ((k : Int) + 1) = (k : Int) + 1 := IntWalk.i64_in _ (by omega)
      have HX := Lib.hid hx
      clear hc hx
      by_cases hn : x = s
      · have hn2 : x.toList = s.toList := by rw [hn]
        have hn3 : (x.toList == s.toList) = true := by rw [hn]; simp
        have HN := Lib.hid hn
        clear hn
        go_wp2
        (first | go_ret2 | (rw [Exit.noGoto_ret]; go_ret2))
        exact ⟨_, _, rfl, .inr ⟨rfl, k, rfl, by rw [HX.out, HN.out]⟩, rfl⟩
      · have hn3 : (x.toList == s.toList) = false := by rw [nmEq_dec]; exact decide_eq_false hn
        have hn2 : ¬ x.toList = s.toList := by rw [← beq_iff_eq, hn3]; decide
        have HNE : Hid (x ≠ s) := hn
        clear hn
        go_wp2
        go_roundg (gk - 1)
        case measure => omega
        case rel =>
          refine ⟨k + 1, by omega, rfl, rfl, by go_num, rfl, fun j hj hx' => ?_⟩
          by_cases hjk : j = k
          · subst hjk
            rw [HX.out] at hx'
            injection hx' with hx'
            exact HNE.out hx'
          · exact HA.out j (by omega) hx'
    · obtain rfl : k = l := by omega
      go_wp2
      (first | go_ret2 | (rw [Exit.noGoto_ret]; go_ret2))
      exact ⟨_, _, rfl, .inl ⟨rfl, rfl, fun j hj => HA.out j (by have := (List.getElem?_eq_some_iff.1 hj).1; have := HL.out; omega) hj⟩, rfl⟩
end Go.Proofs.YtkgkefifcpneiaaDoor
