/- Layer 26: the chapter's example; which inputs are gone through. -/
import Derived.Test.YtkggobndofjclaaSpR
import Derived.Lib.SmallJoins
namespace Go.Proofs.Ytkggobndofjclaa
open Go.RowKit
attribute [local go_sem ↓] Go.wp_at_zero Go.wp_at_succ

theorem Cells.of_block {w : World} {b : Nat} {B : Nat} {cs : Array Value} {t : TypeId} {xs : List Value} (e : cs.toList = xs) (h : w.heap[b]? = some (.cells cs t (0, 0))) (hB : b < B := by omega) : Cells w B (some ⟨b, 0, none⟩) xs := fun _ => by
  refine ⟨b, 0, rfl, hB, fun j u hj => ?_⟩
  rw [Nat.zero_add, cell_of_row w b j _ _ _ h, ← Array.getElem?_toList, e]
  exact hj
theorem lives26_sum : 0 + (22 + (⟨#[97]⟩ : ByteArray).size + cutC 3) = 26 := by decide
set_option maxHeartbeats 800000 in
theorem lives26_any (w : World) : Calls Try.prog 9 #[] w fun e w' => e = .returned (.bool true) ∧ Below w.heap.size w w' := by
  have HL1 : Hid (Led (w.alloc (.cells #[.int .i64 0] 28)) w.heap.size 0) := heap_alloc_new w _
  have HB1 := Lib.hid ((Below.refl w.heap.size w).alloc (Nat.le_refl _) (.cells #[.int .i64 0] 28))
  go_enter Try.func9, Try.ntmps9
  go_wp2_with (first
    | (go_at_call 19; refine (put26_any w.heap.size 0 ⟨#[97]⟩ 3 _ HL1.out (by omega) (by decide)).mono ?_; rintro e w2 ⟨rfl, h1, h2⟩; rw [lives26_sum] at h1; have HL2 := Lib.hid h1; have HB2 := Lib.hid (h2.below HB1.out HB1.out.size (fun k hk => Nat.le_of_eq (Eq.symm hk))); clear h1 h2; have kc := fun (C : Array Value) (n k : Nat) => Joins.run_convert_bytes_const_at (P := Try.prog) w2 45 5 C n k w2.heap.size rfl Try.underlying45 Try.underlying5)
    | (go_at_call 11; refine (issued_any w.heap.size 26 _ HL2.out).mono ?_; rintro e w' ⟨rfl, rfl⟩))
  have HB3 := Lib.hid ((HB2.out.alloc HB2.out.size (.cells #[.int .u8 97, .int .u8 98, .int .u8 99] 5 (3, 4))).alloc (Nat.le_trans HB2.out.size (by simp)) (.cells #[.string ⟨#[97]⟩, .slice (some ⟨w2.heap.size, 0, none⟩) 3 3] 47))
  have HL3 := Lib.hid ((HL2.out.alloc (.cells #[.int .u8 97, .int .u8 98, .int .u8 99] 5 (3, 4))).alloc (.cells #[.string ⟨#[97]⟩, .slice (some ⟨w2.heap.size, 0, none⟩) 3 3] 47))
  have HC3 : Hid (Cells ((w2.alloc (.cells #[.int .u8 97, .int .u8 98, .int .u8 99] 5 (3, 4))).alloc (.cells #[.string ⟨#[97]⟩, .slice (some ⟨w2.heap.size, 0, none⟩) 3 3] 47)) (w2.heap.size + 2) (some ⟨w2.heap.size + 1, 0, none⟩) ([(⟨⟨#[97]⟩, some ⟨w2.heap.size, 0, none⟩, 3, 3⟩ : LF)].map LF.cells).flatten) := Cells.of_block (cs := #[.string ⟨#[97]⟩, .slice (some ⟨w2.heap.size, 0, none⟩) 3 3]) (t := 47) rfl (by have := heap_alloc_new (w2.alloc (.cells #[.int .u8 97, .int .u8 98, .int .u8 99] 5 (3, 4))) (.cells #[.string ⟨#[97]⟩, .slice (some ⟨w2.heap.size, 0, none⟩) 3 3] 47); simpa using this)
  have HBD := Lib.hid (bound_any w.heap.size 26 (some ⟨w2.heap.size + 1, 0, none⟩) 1 1 [⟨⟨#[97]⟩, some ⟨w2.heap.size, 0, none⟩, 3, 3⟩] _ _ HL3.out (by omega) rfl (by omega) (by show 18 + 1 + 0 ≤ _; omega) HC3.out (by simp))
  go_wp2_with (first
    | (go_at_call 12; refine HBD.out.mono ?_; rintro e w4 ⟨rfl, hb⟩; have HB4 := Lib.hid (HB3.out.trans (hb.mono HB3.out.size)); clear hb))
  go_ret
  exact ⟨rfl, HB4.out⟩

/-- Files that aren't more, or greater, than are gone through. -/
def NarrowF (fs : List LF) : Prop := fs.length ≤ 250 ∧ ∀ f ∈ fs, f.s.size ≤ 300 ∧ f.len ≤ 70000
set_option maxHeartbeats 800000 in
theorem wide_any (A : Option Addr) (l c : Nat) (fs : List LF) (B : Nat) (w : World) (hl : fs.length = l) (hb : Cells w B A (fs.map LF.cells).flatten) :
    Calls Try.prog 8 #[.slice A l c] w fun e w' => ∃ o : Bool, e = .returned (.bool o) ∧ w = w' ∧ (o = false → NarrowF fs) := by
  have HC := Lib.hid hb
  have HFL := Lib.hid (files_len fs)
  clear hb
  go_enter Try.func8, Try.ntmps8
  go_wp2
  go_loopg [3] l (fun gk i wr => ∃ k : Nat, k + gk = l ∧ k ≤ 300 ∧ i = .int .i64 k ∧ wr = w ∧ ∀ j f, j < k → fs[j]? = some f → f.s.size ≤ 300 ∧ f.len ≤ 70000)
  case atStart => exact ⟨0, by omega, by omega, rfl, rfl, fun j f hj => absurd hj (Nat.not_lt_zero _)⟩
  case round =>
    obtain ⟨k, hk, hk3, rfl, rfl, hall⟩ := hrel
    have HALL := Lib.hid hall
    clear hall
    by_cases h : k < l
    · by_cases h3 : k < 300
      · obtain ⟨f, hx⟩ : ∃ x, fs[k]? = some x := ⟨_, List.getElem?_eq_getElem (by omega)⟩
        obtain ⟨b, o, rfl, hbB, hc⟩ := HC.out (by rw [HFL.out]; omega)
        have HF := Lib.hid (files_at hx)
        have c0 : wr.cell? ⟨b, o + k * 2, none⟩ = some (.string f.s) := hc _ _ HF.out.1
        have c1 : wr.cell? ⟨b, o + k * 2 + 1, none⟩ = some (.slice f.A f.len f.cap) := (by rw [Nat.add_assoc]; exact hc _ _ HF.out.2)
        have HX := Lib.hid hx
        have hd3 : decide ((k : Int) < 300) = true := by simp; omega
        have HK3 := Lib.hid h3
        have hw1 : IntKind.i64.wrap ((k : Int) + 1) = (k : Int) + 1 := wrap26 _ (by omega) (by omega)
        clear hc hx h3 hk3
        by_cases hs : 300 < f.s.size
        · have hd : decide (300 < (f.s.size : Int)) = true := by simp; omega
          clear hs
          go_wp2
          go_ret
          exact ⟨true, rfl, rfl, fun h => by cases h⟩
        by_cases hn : 70000 < f.len
        · have hd : decide (300 < (f.s.size : Int)) = false := by simp; omega
          have hd2 : decide (70000 < (f.len : Int)) = true := by simp; omega
          clear hs hn
          go_wp2
          go_ret
          exact ⟨true, rfl, rfl, fun h => by cases h⟩
        · have hd : decide (300 < (f.s.size : Int)) = false := by simp; omega
          have hd2 : decide (70000 < (f.len : Int)) = false := by simp; omega
          have HNA : Hid (f.s.size ≤ 300 ∧ f.len ≤ 70000) := ⟨by omega, by omega⟩
          clear hs hn
          go_wp2
          go_roundg (gk - 1)
          case measure => omega
          case rel =>
            have hk3 := HK3.out
            exact ⟨k + 1, by omega, by omega, by go_num, rfl, fun j f' hj hf' => by
            by_cases hjk : j = k
            · subst hjk
              rw [HX.out] at hf'
              injection hf' with hf'
              subst hf'
              exact HNA.out
            · exact HALL.out j f' (by omega) hf'⟩
      · obtain rfl : k = 300 := by omega
        have hl2 : decide (250 < (l : Int)) = true := by simp; omega
        go_wp2
        go_ret
        exact ⟨true, by rw [← hl2]; rfl, rfl, fun h => by cases h⟩
    · obtain rfl : k = l := by omega
      go_wp2
      go_ret
      exact ⟨decide (250 < (k : Int)), rfl, rfl, fun hd => ⟨by simp at hd; omega, fun f hf => by
        obtain ⟨j, hj⟩ := List.mem_iff_getElem?.1 hf
        exact HALL.out j f (by have := (List.getElem?_eq_some_iff.1 hj).1; omega) hj⟩⟩
end Go.Proofs.Ytkggobndofjclaa
