/- Layer 24: an index in memory: what is asked of it, what is put into it, what is dropped. -/
import Derived.Test.YtjoifgeljjgflaaDoorIxI
import Derived.Test.YtjoifgeljjgflaaDoorEnE
import Derived.Test.YtjoifgeljjgflaaDoorEnL
namespace Go.Proofs.YtjoifgeljjgflaaDoor
open Go.RowKit

abbrev memCells (ms : List LM) : List Value := (ms.map LM.cells).flatten
/-- An index in memory: its box, and the row of its members, all from block 'base' on. -/
structure LX (w : World) (base g : Nat) (A : Option Addr) (c : Nat) (ms : List LM) : Prop where
  box : Box w g #[.slice A ms.length c] 57
  own : w.ownsRow base 32 7 (.slice A ms.length c) ms.length (memCells ms)
  low : base ≤ g
  few : ms.length ≤ 1000
  ris : RisM ms
theorem LX.below {w w' : World} {base g : Nat} {A : Option Addr} {c : Nat} {ms : List LM} {B : Nat} (h : LX w base g A c ms) (hb : Below B w w') (hB : B = w.heap.size) : LX w' base g A c ms := by
  subst hB
  exact ⟨h.box.below hb h.box.lt, own_keep h.own (Mod.of_below hb) (fun _ _ hh => hh), h.low, h.few, h.ris⟩
theorem LX.drewN {w : World} {base g : Nat} {A : Option Addr} {c : Nat} {ms : List LM} (h : LX w base g A c ms) (n : Nat) : LX (w.drewN n) base g A c ms := ⟨h.box, h.own, h.low, h.few, h.ris⟩
theorem LX.cells {w : World} {base g : Nat} {A : Option Addr} {c : Nat} {ms : List LM} (h : LX w base g A c ms) : Cells w w.heap.size A (memCells ms) := fun hp => by
  rcases ownK_form h.own with ⟨he, h0⟩ | ⟨g', c', he⟩
  · rw [mems_len, h0] at hp; omega
  · injection he with hA _ hc
    subst hA hc
    obtain ⟨cur, hg, htk, _, _, _, _, hxl⟩ := ownK_row h.own
    refine ⟨g', 0, rfl, (Array.getElem?_eq_some_iff.1 hg).1, fun j u hj => ?_⟩
    have := seg_cells hg 0 (memCells ms) (by rw [List.drop_zero, hxl]; exact htk) j u hj
    rw [Addr.add_lit] at this
    exact this
/-- The index's own blocks. -/
def ixS (g : Nat) (A : Option Addr) (n c : Nat) : Nat → Prop := orS (oneB g) (ownS (.slice A n c))
theorem LX.apart {w : World} {base g : Nat} {A : Option Addr} {c : Nat} {ms : List LM} (h : LX w base g A c ms) : ¬ ownS (.slice A ms.length c) g := own_ne h.own h.box (by decide)
theorem LX.lts {w : World} {base g : Nat} {A : Option Addr} {c : Nat} {ms : List LM} (h : LX w base g A c ms) : ∀ k, ixS g A ms.length c k → k < w.heap.size ∧ base ≤ k := fun k hk => by
  rcases hk with hk | hk
  · have : k = g := hk
    subst this
    exact ⟨h.box.lt, h.low⟩
  · exact ⟨own_lt h.own k hk, (h.own.lt k hk).1⟩

set_option maxHeartbeats 400000 in
theorem ixMembers_any (base g : Nat) (A : Option Addr) (c : Nat) (ms : List LM) (w : World) (h : LX w base g A c ms) :
    Calls Tryd.prog 34 #[.pointer (some ⟨g, 0, none⟩)] w fun e w' => e = .returned (.slice A ms.length c) ∧ w = w' := by
  have c0 : w.cell? ⟨g, 0, none⟩ = some (.slice A ms.length c) := h.box.cell 0
  clear h
  go_enter Tryd.func34, Tryd.ntmps34
  go_wp2
  go_ret
  exact ⟨rfl, rfl⟩
set_option maxHeartbeats 400000 in
theorem ixMembers_nil (w : World) : Calls Tryd.prog 34 #[.pointer none] w fun e w' => e = .returned (.slice none 0 0) ∧ w = w' := by
  go_enter Tryd.func34, Tryd.ntmps34
  go_wp2
  go_ret
  exact ⟨rfl, rfl⟩

set_option maxHeartbeats 1000000 in
theorem ixPlace_any (base g : Nat) (A : Option Addr) (c : Nat) (ms : List LM) (s : ByteArray) (w : World) (h : LX w base g A c ms) :
    Calls Tryd.prog 40 #[.pointer (some ⟨g, 0, none⟩), .string s] w fun e w' => e = .returned (.tuple #[.int .i64 (posK LM.nm ms s : Nat), .bool (hasK LM.nm ms s)]) ∧ Below w.heap.size w w' := by
  have HM := Lib.hid (fun W (hW : w = W) => hW ▸ ixMembers_any base g A c ms w h)
  have HS := Lib.hid (bsF_any A ms.length c ms s w.heap.size w rfl (by have := h.few; omega) h.ris h.cells (Nat.le_refl _))
  clear h
  go_enter Tryd.func40, Tryd.ntmps40
  go_wp2_with (first
    | (go_at_call 34; refine (HM.out _ rfl).mono ?_; rintro e w' ⟨rfl, rfl⟩; clear HM)
    | (go_at_call 48; refine HS.out.mono ?_; rintro e w' ⟨rfl, hbel⟩; have HBL := Lib.hid hbel; clear hbel HS))
  go_ret2
  exact ⟨rfl, HBL.out⟩
set_option maxHeartbeats 1000000 in
theorem ixPlace_nil (s : ByteArray) (w : World) :
    Calls Tryd.prog 40 #[.pointer none, .string s] w fun e w' => e = .returned (.tuple #[.int .i64 0, .bool false]) ∧ Below w.heap.size w w' := by
  have HM := Lib.hid (fun W => ixMembers_nil W)
  have HS := Lib.hid (bsF_any none 0 0 [] s w.heap.size w rfl (by omega) List.Pairwise.nil (Cells.nil _ _ _) (Nat.le_refl _))
  go_enter Tryd.func40, Tryd.ntmps40
  go_wp2_with (first
    | (go_at_call 34; refine (HM.out _).mono ?_; rintro e w' ⟨rfl, rfl⟩; clear HM)
    | (go_at_call 48; refine HS.out.mono ?_; rintro e w' ⟨rfl, hbel⟩; have HBL := Lib.hid hbel; clear hbel HS))
  go_ret2
  exact ⟨rfl, HBL.out⟩

set_option maxHeartbeats 400000 in
theorem ixLen_any (base g : Nat) (A : Option Addr) (c : Nat) (ms : List LM) (w : World) (h : LX w base g A c ms) :
    Calls Tryd.prog 12 #[.pointer (some ⟨g, 0, none⟩)] w fun e w' => e = .returned (.int .i64 (ms.length : Nat)) ∧ w = w' := by
  have HM := Lib.hid (ixMembers_any base g A c ms w h)
  clear h
  go_enter Tryd.func12, Tryd.ntmps12
  go_wp2_with (go_at_call 34; refine HM.out.mono ?_; rintro e w' ⟨rfl, rfl⟩)
  go_ret
  exact ⟨rfl, rfl⟩
set_option maxHeartbeats 400000 in
theorem ixLen_nil (w : World) : Calls Tryd.prog 12 #[.pointer none] w fun e w' => e = .returned (.int .i64 0) ∧ w = w' := by
  have HM := Lib.hid (ixMembers_nil w)
  go_enter Tryd.func12, Tryd.ntmps12
  go_wp2_with (go_at_call 34; refine HM.out.mono ?_; rintro e w' ⟨rfl, rfl⟩)
  go_ret
  exact ⟨rfl, rfl⟩

set_option maxHeartbeats 1000000 in
/-- slices.Clone of members. -/
theorem ixClone_any (A : Option Addr) (l c : Nat) (ms : List LM) (B : Nat) (w : World) (hl : ms.length = l) (hm : l ≤ 1000000000) (hb : Cells w B A (memCells ms)) :
    Calls Tryd.prog 28 #[.slice A l c] w fun e w' => ∃ A' c', e = .returned (.slice A' l c') ∧ w'.ownsRow w.heap.size 32 7 (.slice A' l c') l (memCells ms) ∧ Below w.heap.size w w' := by
  have HC := Lib.hid hb
  have HFL := Lib.hid (mems_len ms)
  have HL := Lib.hid hl
  cases A with
  | none =>
    have h0 : l = 0 := by
      rcases Nat.eq_zero_or_pos l with h | h
      · exact h
      · obtain ⟨_, _, h, _⟩ := hb (by rw [mems_len]; omega)
        cases h
    subst h0
    obtain rfl : ms = [] := List.eq_nil_of_length_eq_zero hl
    clear hb hl
    have heq : ∀ c, (binOp .eql 22 (.slice none 0 c) (.slice none 0 0)).run Tryd.prog w = .ok (.bool true) w := fun c => Lib.run_eql_slice_nil _ _ _ _ _ c 0 0 Tryd.underlying22
    go_enter Tryd.func28, Tryd.ntmps28
    go_wp2
    go_ret
    exact ⟨none, 0, rfl, World.ownsRow_nil _ _ _ _, Below.refl _ _⟩
  | some a =>
    obtain ⟨W0, hW0⟩ : ∃ W0, w.alloc (.cells #[] 32) = W0 := ⟨_, rfl⟩
    have HO0 : Hid (W0.ownsRow w.heap.size 32 7 (.slice (some ⟨w.heap.size, 0, none⟩) 0 0) 0 []) := by rw [← hW0]; exact World.ownsRow_lit w #[] 0 (Nat.le_refl _) (Nat.zero_le _) rfl
    have HB0 : Hid (Below w.heap.size w W0) := by rw [← hW0]; exact (Below.refl _ w).alloc (Nat.le_refl _) _
    have HC0 : Hid (Cells W0 B (some a) (memCells ms)) := by
      show Cells _ _ _ _
      intro hp
      obtain ⟨b, o, e, hbB, hcc⟩ := hb hp
      refine ⟨b, o, e, hbB, fun j u hj => ?_⟩
      rw [← hW0]
      have hlt : b < w.heap.size := by
        have := hcc j u hj
        simp only [World.cell?] at this
        cases hh : w.heap[b]? with
        | none => rw [hh] at this; cases this
        | some o' => exact (Array.getElem?_eq_some_iff.1 hh).1
      exact (((Below.refl _ w).alloc (Nat.le_refl _) _).cell (p := ⟨b, o + j, none⟩) hlt).trans (hcc j u hj)
    have heq : ∀ c, (binOp .eql 22 (.slice (some a) l c) (.slice none 0 0)).run Tryd.prog w = .ok (.bool false) w := fun c => Lib.run_eql_slice_nil _ _ _ _ _ c 0 0 Tryd.underlying22
    have hz0 := HB0.out.size
    clear hb hl
    go_enter Tryd.func28, Tryd.ntmps28
    go_wp2_with (at_builtin; refine wpList_app _ memElem rfl _ _ rfl w.heap.size (.slice (some ⟨w.heap.size, 0, none⟩) 0 0) 0 [] rfl HO0.out B (some a) l c (memCells ms) rfl (by rw [HFL.out, HL.out]) HC0.out (memsOne ms) (by unfold maxLen; omega) (by omega) hz0 ?_; intro A' c' w' hApp; have HAP := Lib.hid hApp; clear hApp)
    go_ret
    simp only [Nat.zero_add, List.nil_append] at HAP
    exact ⟨_, _, rfl, HAP.out.own, HAP.out.below HB0.out HB0.out.size (fun q hq => (HO0.out.lt q hq).1)⟩
end Go.Proofs.YtjoifgeljjgflaaDoor
