/- Layer 8: the reference's bits of a code. -/
import Derived.Test.YtgbbdgoleiolhaaGreatCrPl
import Derived.Test.YtgbbdgoleiolhaaGreatMgBlockPuts23
import Derived.Deep.RegionWith
namespace Go.Proofs.YtgbbdgoleiolhaaGreat
open Go.RowKit BitsP

theorem codeB_succ (v i : Nat) : codeB v (i + 1) = decide (v / p2 i % 2 = 1) :: codeB v i := by
  unfold codeB
  rw [bitsOf_snoc, List.reverse_append]
  rfl
set_option maxHeartbeats 1000000 in
theorem refBits_any (v n : Nat) (w : World) (hv : v < 32768) (hn : n ≤ 15) :
    Calls Tryz.prog 56 #[.int .i64 (v : Int), .int .i64 (n : Int)] w
      fun e w' => ∃ A c, e = .returned (.slice A n c) ∧ OwnB w' w.heap.size 5 (.slice A n c) n (bitBytes (codeB v n)) ∧ Below w.heap.size w w' := by
  go_enter Tryz.func56, Tryz.ntmps56
  go_wp2
  go_loopg [0, 5, 6] n (fun gk nk vk i wr => ∃ k : Nat, k + gk = n ∧ i = .int .i64 k ∧ nk = .int .i64 (v / p2 k : Nat) ∧ OwnB wr w.heap.size 5 vk k (bitBytes (codeB v k)) ∧ Below w.heap.size w wr)
  case atStart => exact ⟨0, by omega, rfl, by simp [p2], World.ownsRow_nil _ _ _ _, Below.refl _ _⟩
  case round =>
    obtain ⟨k, hk, rfl, rfl, hown, hbel⟩ := hrel
    have HOWN := Lib.hid hown
    have HBEL := Lib.hid hbel
    have hsz := hbel.size
    clear hown hbel
    have hle : v / p2 k ≤ v := Nat.div_le_self _ _
    have HS := Lib.hid (codeB_succ v k)
    have HD := Lib.hid (div_p2 v k)
    generalize v / p2 k = x at *
    obtain ⟨A, c, rfl⟩ := own_form HOWN.out
    by_cases hkq : k < n
    · obtain ⟨W1, hW1⟩ : ∃ W1, wr.alloc (.cells #[.int .u8 ((x : Int) % 2)] 5) = W1 := ⟨_, rfl⟩
      have HO1 : Hid (W1.ownsRow w.heap.size 5 1 (.slice (some ⟨wr.heap.size, 0, none⟩) 1 1) 1 [.int .u8 ((x : Int) % 2)]) := by
        show World.ownsRow _ _ _ _ _ _ _
        rw [← hW1]
        exact World.ownsRow_lit wr #[.int .u8 ((x : Int) % 2)] 1 hsz (by unfold maxLen; omega) rfl
      have HB1 : Hid (Below w.heap.size w W1) := by show Below _ _ _; rw [← hW1]; exact HBEL.out.alloc hsz _
      have HC1 : Hid (Cells W1 W1.heap.size A (byteCells (bitBytes (codeB v k)))) := by
        show Cells _ _ _ _
        rw [← hW1]
        exact ((Cells.of_own HOWN.out).alloc (Nat.le_refl _) _).more (by simp)
      have hcl : (byteCells (bitBytes (codeB v k))).length = k * 1 := by rw [byteCells_length, bitBytes_length, codeB_len, Nat.mul_one]
      go_wp2_with (at_builtin; refine wpList_app _ byteElem3 rfl (.tmp 15) (.tmp 16) rfl w.heap.size (.slice (some ⟨wr.heap.size, 0, none⟩) 1 1) 1 _ rfl HO1.out _ _ k c (byteCells (bitBytes (codeB v k))) rfl hcl HC1.out (byteCells_one _) (by unfold maxLen; omega) (by omega) HB1.out.size ?_; intro A' c' w2 hA; have HA := Lib.hid hA; clear hA)
      go_roundg (gk - 1)
      case measure => omega
      case rel =>
        refine ⟨k + 1, by omega, by go_num, by rw [← HD.out]; go_num, ?_, HA.out.below HB1.out HB1.out.size (own_base HO1.out)⟩
        have := HA.out.own
        rw [HS.out]
        unfold OwnB
        rw [Nat.add_comm k 1]
        rw [bit_cell] at this
        exact this
    · obtain rfl : k = n := by omega
      go_wp2
      go_ret
      exact ⟨A, c, rfl, HOWN.out, HBEL.out⟩
end Go.Proofs.YtgbbdgoleiolhaaGreat
/- The contract of layer 3's lives, and the walk of BitsCut. -/
namespace Go.Proofs.YtgbbdgoleiolhaaGreat
open Go.RowKit BitsP
attribute [local go_sem ↓] Go.wp_at_zero Go.wp_at_succ

theorem WrS.keep {w w' : World} {g base : Nat} {S T : Nat → Prop} {L : List Bool} (h : WrS w g base S L) (hm : Mod T w w') (hd : ∀ k, S k → ¬ T k) : WrS w' g base S L := by
  obtain ⟨whole, R, hsp, A, c, hb, hown, rfl⟩ := h
  exact ⟨whole, R, hsp, A, c, hm.keep hb (hd g (.inl rfl)), own_keep hown hm (fun k hk => hd k (.inr hk)), rfl⟩
theorem WrS.lt {w : World} {g base : Nat} {S : Nat → Prop} {L : List Bool} (h : WrS w g base S L) : ∀ k, S k → k < w.heap.size := by
  obtain ⟨whole, R, hsp, A, c, hb, hown, rfl⟩ := h
  intro k hk
  rcases hk with rfl | hk
  · exact hb.lt
  · exact own_lt hown k hk
/-- The cells of a zero writer. -/
def zeroWr : Array Value := #[.slice none 0 0, .int .u64 0, .int .i64 0]
theorem ownS_nil (k : Nat) : ¬ ownS (.slice none 0 0) k := fun h => by cases h
theorem WrS.zero {w : World} {g : Nat} (base : Nat) (h : w.heap[g]? = some (.cells zeroWr 27 (0, 0))) : WrS w g base (oneB g) [] := by
  refine ⟨[], [], Split.nil, none, 0, h, World.ownsRow_nil _ _ _ _, ?_⟩
  funext k
  apply propext
  exact ⟨fun h => .inl h, fun h => h.elim id fun h => absurd h (ownS_nil k)⟩

theorem str_any (w : World) (A : Option Addr) (l c B : Nat) (bs : List UInt8) (h : Bytes w B A bs) (hl : bs.length = l) : (convert 24 9 (.slice A l c)).run Tryz.prog w = .ok (.string ⟨bs.toArray⟩) w :=
  run_string_of 24 9 5 Tryz.underlying24 Tryz.underlying5 Tryz.underlying9 h hl

theorem lives_bits : pack (([] ++ bitsOf (5 : Int).toNat (cnt 3)) ++ bitsOf (1 : Int).toNat (cnt 1)) = [13] := by decide
theorem lives_len : (([] ++ bitsOf (5 : Int).toNat (cnt 3)) ++ bitsOf (1 : Int).toNat (cnt 1)).length = 4 := by decide

/-- Calls that make memory alone, one behind the other. -/
theorem close_four {B : Nat} {W w w4 w5 w7 : World} {nd : Nat} (h : Below B W w) (h4 : Below w.drew.heap.size w.drew w4) (h5 : Below w4.heap.size w4 w5) (h7 : Below (w5.drewN nd).heap.size (w5.drewN nd) w7) (hB : B ≤ w.heap.size) : Below B W w7 := by
  have a4 : Below B W w4 := h.drew.trans (h4.mono hB)
  have b4 : B ≤ w4.heap.size := Nat.le_trans hB h4.size
  have a5 : Below B W w5 := a4.trans (h5.mono b4)
  have b5 : B ≤ w5.heap.size := Nat.le_trans b4 h5.size
  have a6 : Below B W (w5.drewN nd) := ⟨a5.os, a5.tape, a5.output, a5.size, a5.block⟩
  exact a6.trans (h7.mono b5)

end Go.Proofs.YtgbbdgoleiolhaaGreat
