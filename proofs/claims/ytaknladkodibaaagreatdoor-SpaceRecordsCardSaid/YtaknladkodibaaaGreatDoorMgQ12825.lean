/- The contracts of layer 3's writer: Len, Bytes, Align; slices.Clone; a writer that isn't there; lives. -/
import Derived.Test.YtaknladkodibaaaGreatDoorMgQ128SBitsPut
import Derived.Deep.QuietTactic
import Derived.BigQuiet
import Derived.Test.YtaknladkodibaaaGreatDoorMgQ12802
import Derived.Deep.RegionWith
namespace Go.Proofs.YtaknladkodibaaaGreatDoor
open Go.RowKit BitsP

set_option maxHeartbeats 400000 in
theorem clone_any (A : Option Addr) (l c B : Nat) (bs : List UInt8) (w : World) (hl : bs.length = l) (hm : l ≤ 1099511627776) (hB : B ≤ w.heap.size) (hb : Bytes w B A bs) :
    Calls Tryz.prog 68 #[.slice A l c] w fun e w' => ∃ A' c', e = .returned (.slice A' l c') ∧ OwnB w' w.heap.size 5 (.slice A' l c') l bs ∧ Below w.heap.size w w' := by
  have HL := Lib.hid hl
  have HB : Hid (Bytes w B A bs) := hb
  have hnil := Lib.run_eql_slice_nil (P := Tryz.prog) w 25 5 A l c 0 0 Tryz.underlying25
  clear hl hb
  cases A with
  | none =>
    have h0 : l = 0 := by
      rcases Nat.eq_zero_or_pos l with h0 | h0
      · exact h0
      · obtain ⟨_, _, h, _⟩ := HB.out (by rw [byteCells_length, HL.out]; exact h0)
        cases h
    subst h0
    have HN : Hid (bs = []) := List.eq_nil_of_length_eq_zero HL.out
    go_enter Tryz.func68, Tryz.ntmps68
    go_wp2
    go_ret
    exact ⟨none, 0, rfl, by rw [HN.out]; exact World.ownsRow_nil _ _ _ _, Below.refl _ _⟩
  | some ad =>
    go_enter Tryz.func68, Tryz.ntmps68
    go_wp2_with (at_builtin; refine wpList_app _ byteElem3 rfl (.tmp 5) (.tmp 6) rfl w.heap.size (.slice (some ⟨w.heap.size, 0, none⟩) 0 0) 0 [] rfl (own_empty w _ (Nat.le_refl _)) B (some ad) l c (byteCells bs) rfl (by rw [byteCells_length, HL.out, Nat.mul_one]) (HB.out.alloc hB _) (byteCells_one _) (by unfold maxLen; omega) (by omega) (by simp) ?_; intro A1 c1 w1 hA; have HA := Lib.hid hA; clear hA)
    simp only [Nat.zero_add, List.nil_append] at HA ⊢
    go_ret
    exact ⟨A1, c1, rfl, HA.out.own, HA.out.below ((Below.refl w.heap.size w).alloc (Nat.le_refl _) (.cells #[] 5)) (by simp) (by simp [Value.ownBlock])⟩

set_option maxHeartbeats 400000 in
theorem wbytes_any (g base : Nat) (S : Nat → Prop) (L : List Bool) (w : World) (h : WrS w g base S L) (hL : L.length ≤ 1099511627776) :
    Calls Tryz.prog 67 #[.pointer (some ⟨g, 0, none⟩)] w fun e w' => ∃ A c, e = .returned (.slice A (pack L).length c) ∧ OwnB w' w.heap.size 5 (.slice A (pack L).length c) (pack L).length (pack L) ∧ Below w.heap.size w w' := by
  obtain ⟨whole, R, hsp, A, c, hb, hown, rfl⟩ := h
  have hlen := hsp.length
  have HP := Lib.hid (pack_eq hsp)
  have HB := Lib.hid hb
  have HOWN := Lib.hid hown
  obtain ⟨c0, c1, c2, f0, f1, f2⟩ := hb.cells
  clear hsp hb hown f0 f1 f2
  cases R with
  | nil =>
    have HP2 : Hid (pack L = whole) := HP.out.trans (pk_nil _)
    go_enter Tryz.func67, Tryz.ntmps67
    go_wp2_with fail
    refine (clone_any A whole.length c w.heap.size whole w rfl (by omega) (Nat.le_refl _) (Cells.of_own HOWN.out)).mono ?_
    rintro e w1 ⟨A1, c1', rfl, hown, hbel⟩
    have HO1 := Lib.hid hown
    have HBEL := Lib.hid hbel
    have hc2 := hbel.cell (p := ⟨g, 2, none⟩) HB.out.lt
    rw [c2] at hc2
    clear hown hbel c0 c1 c2
    go_wp2
    go_ret
    refine ⟨A1, c1', by rw [HP2.out]; rfl, by rw [HP2.out]; exact HO1.out, HBEL.out⟩
  | cons b0 R =>
    have HP2 : Hid (pack L = whole ++ [UInt8.ofNat (num (b0 :: R))]) := HP.out.trans (pk_some (by simp))
    have hpos : (0 : Int) < (((b0 :: R).length : Nat) : Int) := by rw [List.length_cons]; omega
    generalize num (b0 :: R) = r at *
    generalize (b0 :: R).length = k at *
    go_enter Tryz.func67, Tryz.ntmps67
    go_wp2_with fail
    refine (clone_any A whole.length c w.heap.size whole w rfl (by omega) (Nat.le_refl _) (Cells.of_own HOWN.out)).mono ?_
    rintro e w1 ⟨A1, c1', rfl, hown, hbel⟩
    have HO1 := Lib.hid hown
    have HBEL := Lib.hid hbel
    have hc2 := hbel.cell (p := ⟨g, 2, none⟩) HB.out.lt
    rw [c2] at hc2
    have hc1 := hbel.cell (p := ⟨g, 1, none⟩) HB.out.lt
    rw [c1] at hc1
    clear hown hbel c0 c1 c2
    go_wp2_with (at_builtin; refine wpList_app1 _ byteElem3 rfl (.tmp 16) (.tmp 22) rfl w.heap.size (.slice A1 whole.length c1') whole.length _ rfl HO1.out _ rfl rfl (by simp [Value.oneCell']) (by unfold maxLen; omega) (by omega) HBEL.out.size ?_; intro A2 c2' w2 hA; have HA := Lib.hid hA; clear hA)
    go_ret
    have e1 : (pack L).length = whole.length + 1 := by rw [HP2.out, List.length_append]; rfl
    have e2 : byteCells whole ++ [Value.int .u8 (IntKind.u8.wrap (r : Int))] = byteCells (pack L) := by
      rw [HP2.out, byteCells_append]
      congr 1
    refine ⟨A2, c2', by rw [e1]; rfl, ?_, HA.out.below HBEL.out HBEL.out.size (own_base HO1.out)⟩
    have := HA.out.own
    rw [e1]
    unfold OwnB
    rw [← e2]
    exact this

end Go.Proofs.YtaknladkodibaaaGreatDoor
/- The contracts of the reference's Row, Fill and Pack of layer 3. -/
namespace Go.Proofs.YtaknladkodibaaaGreatDoor
open Go.RowKit BitsP

end Go.Proofs.YtaknladkodibaaaGreatDoor
/- The contracts of layer 3's reader, and of the reference's Unpack and Number. -/
namespace Go.Proofs.YtaknladkodibaaaGreatDoor
open Go.RowKit BitsP
attribute [local go_sem ↓] Go.wp_at_zero Go.wp_at_succ

/-- A reader's block. -/
def RdB (w : World) (g : Nat) (A : Option Addr) (l c p : Nat) : Prop := w.heap[g]? = some (.cells #[.slice A l c, .int .i64 (p : Int)] 248 (0, 0))
theorem RdB.cells {w : World} {g : Nat} {A : Option Addr} {l c p : Nat} (h : RdB w g A l c p) : w.cell? ⟨g, 0, none⟩ = some (.slice A l c) ∧ w.cell? ⟨g, 1, none⟩ = some (.int .i64 (p : Int)) ∧ w.frozen? ⟨g, 1, none⟩ = false :=
  ⟨cell_of_row w g 0 _ _ _ h, cell_of_row w g 1 _ _ _ h, frozen_of_row w g 1 _ _ h⟩
/-- A reader of bytes, at a place. -/
def RdS (w : World) (g base : Nat) (S : Nat → Prop) (bs : List UInt8) (p : Nat) : Prop :=
  ∃ A c, RdB w g A bs.length c p ∧ OwnB w base 5 (.slice A bs.length c) bs.length bs ∧ S = orS (oneB g) (ownS (.slice A bs.length c)) ∧ p ≤ 8 * bs.length ∧ bs.length ≤ c
theorem RdS.keep {w w' : World} {g base : Nat} {S T : Nat → Prop} {bs : List UInt8} {p : Nat} (h : RdS w g base S bs p) (hm : Mod T w w') (hd : ∀ k, S k → ¬ T k) : RdS w' g base S bs p := by
  obtain ⟨A, c, hb, hown, rfl, hp, hc⟩ := h
  exact ⟨A, c, hm.keep hb (hd g (.inl rfl)), own_keep hown hm (fun k hk => hd k (.inr hk)), rfl, hp, hc⟩
theorem RdS.lt {w : World} {g base : Nat} {S : Nat → Prop} {bs : List UInt8} {p : Nat} (h : RdS w g base S bs p) : ∀ k, S k → k < w.heap.size := by
  obtain ⟨A, c, hb, hown, rfl, hp⟩ := h
  intro k hk
  rcases hk with rfl | hk
  · exact (Array.getElem?_eq_some_iff.1 hb).1
  · exact own_lt hown k hk
theorem RdS.drewN {w : World} {g base : Nat} {S : Nat → Prop} {bs : List UInt8} {p : Nat} (h : RdS w g base S bs p) (n : Nat) : RdS (w.drewN n) g base S bs p := h
end Go.Proofs.YtaknladkodibaaaGreatDoor
/- The contracts of the reader's Take and Align, and of the reference's Unpack and Number. -/
namespace Go.Proofs.YtaknladkodibaaaGreatDoor
open Go.RowKit BitsP
attribute [local go_sem ↓] Go.wp_at_zero Go.wp_at_succ

/-- What Take tells. -/
def takes (bs : List UInt8) (p q : Nat) : Nat := if p + q ≤ 8 * bs.length then num (((unpack bs).drop p).take q) else 0
end Go.Proofs.YtaknladkodibaaaGreatDoor
/- Layer 8: the reference's bits of a code. -/
namespace Go.Proofs.YtaknladkodibaaaGreatDoor
open Go.RowKit BitsP

end Go.Proofs.YtaknladkodibaaaGreatDoor
/- The contract of layer 3's lives, and the walk of BitsCut. -/
namespace Go.Proofs.YtaknladkodibaaaGreatDoor
open Go.RowKit BitsP
attribute [local go_sem ↓] Go.wp_at_zero Go.wp_at_succ

theorem WrS.keep {w w' : World} {g base : Nat} {S T : Nat → Prop} {L : List Bool} (h : WrS w g base S L) (hm : Mod T w w') (hd : ∀ k, S k → ¬ T k) : WrS w' g base S L := by
  obtain ⟨whole, R, hsp, A, c, hb, hown, rfl⟩ := h
  exact ⟨whole, R, hsp, A, c, hm.keep hb (hd g (.inl rfl)), own_keep hown hm (fun k hk => hd k (.inr hk)), rfl⟩
theorem WrS.lt {w : World} {g base : Nat} {S : Nat → Prop} {L : List Bool} (h : WrS w g base S L) : ∀ k, S k → k < w.heap.size := by
  obtain ⟨whole, R, hsp, A, c, hb, hown, rfl⟩ := h
  intro k hk
  rcases hk with rfl | hk
  · exact hb.lt
  · exact own_lt hown k hk
/-- The cells of a zero writer. -/
def zeroWr : Array Value := #[.slice none 0 0, .int .u64 0, .int .i64 0]
theorem ownS_nil (k : Nat) : ¬ ownS (.slice none 0 0) k := fun h => by cases h
theorem WrS.zero {w : World} {g : Nat} (base : Nat) (h : w.heap[g]? = some (.cells zeroWr 114 (0, 0))) : WrS w g base (oneB g) [] := by
  refine ⟨[], [], Split.nil, none, 0, h, World.ownsRow_nil _ _ _ _, ?_⟩
  funext k
  apply propext
  exact ⟨fun h => .inl h, fun h => h.elim id fun h => absurd h (ownS_nil k)⟩

end Go.Proofs.YtaknladkodibaaaGreatDoor
