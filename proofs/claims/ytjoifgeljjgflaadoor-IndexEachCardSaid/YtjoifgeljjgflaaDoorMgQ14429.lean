/- Layer 24: an index in memory: what is asked of it, what is put into it, what is dropped. -/
import Derived.Test.YtjoifgeljjgflaaDoorMgQ144SIxI
import Derived.Test.YtjoifgeljjgflaaDoorMgQ14423
import Derived.Test.YtjoifgeljjgflaaDoorMgQ14427
namespace Go.Proofs.YtjoifgeljjgflaaDoor
open Go.RowKit

abbrev memCells (ms : List LM) : List Value := (ms.map LM.cells).flatten
/-- An index in memory: its box, and the row of its members, all from block 'base' on. -/
structure LX (w : World) (base g : Nat) (A : Option Addr) (c : Nat) (ms : List LM) : Prop where
  box : Box w g #[.slice A ms.length c] 57
  own : w.ownsRow base 32 7 (.slice A ms.length c) ms.length (memCells ms)
  low : base ≤ g
  few : ms.length ≤ 1000
  ris : RisM ms
theorem LX.below {w w' : World} {base g : Nat} {A : Option Addr} {c : Nat} {ms : List LM} {B : Nat} (h : LX w base g A c ms) (hb : Below B w w') (hB : B = w.heap.size) : LX w' base g A c ms := by
  subst hB
  exact ⟨h.box.below hb h.box.lt, own_keep h.own (Mod.of_below hb) (fun _ _ hh => hh), h.low, h.few, h.ris⟩
theorem LX.drewN {w : World} {base g : Nat} {A : Option Addr} {c : Nat} {ms : List LM} (h : LX w base g A c ms) (n : Nat) : LX (w.drewN n) base g A c ms := ⟨h.box, h.own, h.low, h.few, h.ris⟩
theorem LX.cells {w : World} {base g : Nat} {A : Option Addr} {c : Nat} {ms : List LM} (h : LX w base g A c ms) : Cells w w.heap.size A (memCells ms) := fun hp => by
  rcases ownK_form h.own with ⟨he, h0⟩ | ⟨g', c', he⟩
  · rw [mems_len, h0] at hp; omega
  · injection he with hA _ hc
    subst hA hc
    obtain ⟨cur, hg, htk, _, _, _, _, hxl⟩ := ownK_row h.own
    refine ⟨g', 0, rfl, (Array.getElem?_eq_some_iff.1 hg).1, fun j u hj => ?_⟩
    have := seg_cells hg 0 (memCells ms) (by rw [List.drop_zero, hxl]; exact htk) j u hj
    rw [Addr.add_lit] at this
    exact this
/-- The index's own blocks. -/
def ixS (g : Nat) (A : Option Addr) (n c : Nat) : Nat → Prop := orS (oneB g) (ownS (.slice A n c))
theorem LX.apart {w : World} {base g : Nat} {A : Option Addr} {c : Nat} {ms : List LM} (h : LX w base g A c ms) : ¬ ownS (.slice A ms.length c) g := own_ne h.own h.box (by decide)
theorem LX.lts {w : World} {base g : Nat} {A : Option Addr} {c : Nat} {ms : List LM} (h : LX w base g A c ms) : ∀ k, ixS g A ms.length c k → k < w.heap.size ∧ base ≤ k := fun k hk => by
  rcases hk with hk | hk
  · have : k = g := hk
    subst this
    exact ⟨h.box.lt, h.low⟩
  · exact ⟨own_lt h.own k hk, (h.own.lt k hk).1⟩

set_option maxHeartbeats 400000 in
theorem ixMembers_any (base g : Nat) (A : Option Addr) (c : Nat) (ms : List LM) (w : World) (h : LX w base g A c ms) :
    Calls Tryd.prog 34 #[.pointer (some ⟨g, 0, none⟩)] w fun e w' => e = .returned (.slice A ms.length c) ∧ w = w' := by
  have c0 : w.cell? ⟨g, 0, none⟩ = some (.slice A ms.length c) := h.box.cell 0
  clear h
  go_enter Tryd.func34, Tryd.ntmps34
  go_wp2
  go_ret
  exact ⟨rfl, rfl⟩
set_option maxHeartbeats 1000000 in
theorem ixPlace_any (base g : Nat) (A : Option Addr) (c : Nat) (ms : List LM) (s : ByteArray) (w : World) (h : LX w base g A c ms) :
    Calls Tryd.prog 40 #[.pointer (some ⟨g, 0, none⟩), .string s] w fun e w' => e = .returned (.tuple #[.int .i64 (posK LM.nm ms s : Nat), .bool (hasK LM.nm ms s)]) ∧ Below w.heap.size w w' := by
  have HM := Lib.hid (fun W (hW : w = W) => hW ▸ ixMembers_any base g A c ms w h)
  have HS := Lib.hid (bsF_any A ms.length c ms s w.heap.size w rfl (by have := h.few; omega) h.ris h.cells (Nat.le_refl _))
  clear h
  go_enter Tryd.func40, Tryd.ntmps40
  go_wp2_with (first
    | (go_at_call 34; refine (HM.out _ rfl).mono ?_; rintro e w' ⟨rfl, rfl⟩; clear HM)
    | (go_at_call 48; refine HS.out.mono ?_; rintro e w' ⟨rfl, hbel⟩; have HBL := Lib.hid hbel; clear hbel HS))
  go_ret2
  exact ⟨rfl, HBL.out⟩
set_option maxHeartbeats 400000 in
theorem ixLen_any (base g : Nat) (A : Option Addr) (c : Nat) (ms : List LM) (w : World) (h : LX w base g A c ms) :
    Calls Tryd.prog 12 #[.pointer (some ⟨g, 0, none⟩)] w fun e w' => e = .returned (.int .i64 (ms.length : Nat)) ∧ w = w' := by
  have HM := Lib.hid (ixMembers_any base g A c ms w h)
  clear h
  go_enter Tryd.func12, Tryd.ntmps12
  go_wp2_with (go_at_call 34; refine HM.out.mono ?_; rintro e w' ⟨rfl, rfl⟩)
  go_ret
  exact ⟨rfl, rfl⟩
set_option maxHeartbeats 1000000 in
/-- slices.Clone of members. -/
theorem ixClone_any (A : Option Addr) (l c : Nat) (ms : List LM) (B : Nat) (w : World) (hl : ms.length = l) (hm : l ≤ 1000000000) (hb : Cells w B A (memCells ms)) :
    Calls Tryd.prog 28 #[.slice A l c] w fun e w' => ∃ A' c', e = .returned (.slice A' l c') ∧ w'.ownsRow w.heap.size 32 7 (.slice A' l c') l (memCells ms) ∧ Below w.heap.size w w' := by
  have HC := Lib.hid hb
  have HFL := Lib.hid (mems_len ms)
  have HL := Lib.hid hl
  cases A with
  | none =>
    have h0 : l = 0 := by
      rcases Nat.eq_zero_or_pos l with h | h
      · exact h
      · obtain ⟨_, _, h, _⟩ := hb (by rw [mems_len]; omega)
        cases h
    subst h0
    obtain rfl : ms = [] := List.eq_nil_of_length_eq_zero hl
    clear hb hl
    have heq : ∀ c, (binOp .eql 22 (.slice none 0 c) (.slice none 0 0)).run Tryd.prog w = .ok (.bool true) w := fun c => Lib.run_eql_slice_nil _ _ _ _ _ c 0 0 Tryd.underlying22
    go_enter Tryd.func28, Tryd.ntmps28
    go_wp2
    go_ret
    exact ⟨none, 0, rfl, World.ownsRow_nil _ _ _ _, Below.refl _ _⟩
  | some a =>
    obtain ⟨W0, hW0⟩ : ∃ W0, w.alloc (.cells #[] 32) = W0 := ⟨_, rfl⟩
    have HO0 : Hid (W0.ownsRow w.heap.size 32 7 (.slice (some ⟨w.heap.size, 0, none⟩) 0 0) 0 []) := by rw [← hW0]; exact World.ownsRow_lit w #[] 0 (Nat.le_refl _) (Nat.zero_le _) rfl
    have HB0 : Hid (Below w.heap.size w W0) := by rw [← hW0]; exact (Below.refl _ w).alloc (Nat.le_refl _) _
    have HC0 : Hid (Cells W0 B (some a) (memCells ms)) := by
      show Cells _ _ _ _
      intro hp
      obtain ⟨b, o, e, hbB, hcc⟩ := hb hp
      refine ⟨b, o, e, hbB, fun j u hj => ?_⟩
      rw [← hW0]
      have hlt : b < w.heap.size := by
        have := hcc j u hj
        simp only [World.cell?] at this
        cases hh : w.heap[b]? with
        | none => rw [hh] at this; cases this
        | some o' => exact (Array.getElem?_eq_some_iff.1 hh).1
      exact (((Below.refl _ w).alloc (Nat.le_refl _) _).cell (p := ⟨b, o + j, none⟩) hlt).trans (hcc j u hj)
    have heq : ∀ c, (binOp .eql 22 (.slice (some a) l c) (.slice none 0 0)).run Tryd.prog w = .ok (.bool false) w := fun c => Lib.run_eql_slice_nil _ _ _ _ _ c 0 0 Tryd.underlying22
    have hz0 := HB0.out.size
    clear hb hl
    go_enter Tryd.func28, Tryd.ntmps28
    go_wp2_with (at_builtin; refine wpList_app _ memElem rfl _ _ rfl w.heap.size (.slice (some ⟨w.heap.size, 0, none⟩) 0 0) 0 [] rfl HO0.out B (some a) l c (memCells ms) rfl (by rw [HFL.out, HL.out]) HC0.out (memsOne ms) (by unfold maxLen; omega) (by omega) hz0 ?_; intro A' c' w' hApp; have HAP := Lib.hid hApp; clear hApp)
    go_ret
    simp only [Nat.zero_add, List.nil_append] at HAP
    exact ⟨_, _, rfl, HAP.out.own, HAP.out.below HB0.out HB0.out.size (fun q hq => (HO0.out.lt q hq).1)⟩
end Go.Proofs.YtjoifgeljjgflaaDoor
/- Layer 24: an index is asked: all, how many bytes, a member, whether there is room. -/
namespace Go.Proofs.YtjoifgeljjgflaaDoor
open Go.RowKit

def LM.zero : LM := ⟨⟨#[]⟩, 0, 0, 0, 0, 0, 0⟩
/-- The member of a name; a zero one, if there is none. -/
def getM (ms : List LM) (s : ByteArray) : LM := (findK LM.nm ms s).getD LM.zero
theorem getM_there {ms : List LM} (h : RisM ms) {s : ByteArray} {x : LM} (hx : ms[posK LM.nm ms s]? = some x) (e : x.nm = s) : getM ms s = x := by unfold getM; rw [findK_there h hx e]; rfl
theorem getM_not {ms : List LM} {s : ByteArray} (h : hasK LM.nm ms s = false) : getM ms s = LM.zero := by unfold getM; rw [findK_not h]; rfl
abbrev aggM (m : LM) : Value := .agg #[.string m.nm, .int .i64 m.at_, .int .i64 m.fr, .int .i64 m.ar, .int .i64 m.sz, .int .u32 m.su, .int .i64 m.me]

theorem box7 {w : World} {g : Nat} {a b c d e f h : Value} {t : TypeId} (H : Box w g #[a, b, c, d, e, f, h] t) : w.cell? ⟨g, 0, none⟩ = some a ∧ w.cell? ⟨g, 1, none⟩ = some b ∧ w.cell? ⟨g, 2, none⟩ = some c ∧ w.cell? ⟨g, 3, none⟩ = some d ∧ w.cell? ⟨g, 4, none⟩ = some e ∧ w.cell? ⟨g, 5, none⟩ = some f ∧ w.cell? ⟨g, 6, none⟩ = some h ∧
    w.frozen? ⟨g, 0, none⟩ = false ∧ w.frozen? ⟨g, 1, none⟩ = false ∧ w.frozen? ⟨g, 2, none⟩ = false ∧ w.frozen? ⟨g, 3, none⟩ = false ∧ w.frozen? ⟨g, 4, none⟩ = false ∧ w.frozen? ⟨g, 5, none⟩ = false ∧ w.frozen? ⟨g, 6, none⟩ = false :=
  ⟨H.cell 0, H.cell 1, H.cell 2, H.cell 3, H.cell 4, H.cell 5, H.cell 6, box_free H _, box_free H _, box_free H _, box_free H _, box_free H _, box_free H _, box_free H _⟩

set_option maxHeartbeats 400000 in
theorem ixBytes_any (base g : Nat) (A : Option Addr) (c : Nat) (ms : List LM) (w : World) (h : LX w base g A c ms) (hr : rowsM ms ≤ 1000000000) :
    Calls Tryd.prog 15 #[.pointer (some ⟨g, 0, none⟩)] w fun e w' => e = .returned (.int .i64 ((rowsM ms + 20 : Nat) : Int)) ∧ Below w.heap.size w w' := by
  have c0 : w.cell? ⟨g, 0, none⟩ = some (.slice A ms.length c) := h.box.cell 0
  have HS := Lib.hid (enLen_any A ms.length c ms w.heap.size w rfl (by have := h.few; omega) (by omega) h.cells (Nat.le_refl _))
  clear h
  go_enter Tryd.func15, Tryd.ntmps15
  go_wp2_with (go_at_call 35; refine HS.out.mono ?_; rintro e w' ⟨rfl, hbel⟩; have HBL := Lib.hid hbel; clear hbel HS)
  go_ret
  exact ⟨rfl, HBL.out⟩
set_option maxHeartbeats 1000000 in
theorem ixGet_any (base g : Nat) (A : Option Addr) (c : Nat) (ms : List LM) (s : ByteArray) (w : World) (h : LX w base g A c ms) :
    Calls Tryd.prog 21 #[.pointer (some ⟨g, 0, none⟩), .string s] w fun e w' => e = .returned (.tuple #[aggM (getM ms s), .bool (hasK LM.nm ms s)]) ∧ Below w.heap.size w w' := by
  obtain ⟨W0, hW0⟩ : ∃ W0, w.alloc (.cells #[.string ⟨#[]⟩, .int .i64 0, .int .i64 0, .int .i64 0, .int .i64 0, .int .u32 0, .int .i64 0] 32) = W0 := ⟨_, rfl⟩
  have HB0 : Hid (Below w.heap.size w W0) := by rw [← hW0]; exact (Below.refl _ w).alloc (Nat.le_refl _) _
  have HX0 : Hid (Box W0 w.heap.size #[.string ⟨#[]⟩, .int .i64 0, .int .i64 0, .int .i64 0, .int .i64 0, .int .u32 0, .int .i64 0] 32) := by rw [← hW0]; exact heap_alloc_new w _
  have HL0 : Hid (LX W0 base g A c ms) := h.below HB0.out rfl
  have HP := Lib.hid (ixPlace_any base g A c ms s W0 HL0.out)
  have HR := Lib.hid h.ris
  obtain ⟨t, ht⟩ : ∃ t, hasK LM.nm ms s = t := ⟨_, rfl⟩
  rw [ht] at HP ⊢
  have HF := Lib.hid h.few
  clear h
  cases t with
  | false =>
    have HG := Lib.hid (getM_not ht)
    clear ht
    go_enter Tryd.func21, Tryd.ntmps21
    go_wp2_with ((go_at_call 40; refine HP.out.mono ?_; rintro e w' ⟨rfl, hbel⟩; have HBL := Lib.hid (HB0.out.trans (hbel.mono HB0.out.size)); have HX1 := Lib.hid (HX0.out.below hbel HX0.out.lt); clear hbel HP; obtain ⟨q0, q1, q2, q3, q4, q5, q6, f0, f1, f2, f3, f4, f5, f6⟩ := box7 HX1.out))
    rw [HG.out]
    refine bodyPost_ret (v := .tuple #[aggM LM.zero, .bool false]) ?_ rfl ⟨rfl, ?_⟩
    · rw [results_cell_tmp rfl]
      go_simp
      simp [LM.zero]
    · iterate 7 (refine Below.setCell ?_ ?_ _; rotate_left; exact Nat.le_refl _)
      exact HBL.out
  | true =>
    obtain ⟨x, hx, hxn⟩ := hasK_there HR.out ht
    have HG := Lib.hid (getM_there HR.out hx hxn)
    have HX := Lib.hid hx
    have hlt := (List.getElem?_eq_some_iff.1 hx).1
    obtain ⟨p, hp⟩ : ∃ p, posK LM.nm ms s = p := ⟨_, rfl⟩
    rw [hp] at HX HP hlt
    clear ht hx hxn hp
    have hpi : (p : Int) < (ms.length : Int) := by omega
    go_enter Tryd.func21, Tryd.ntmps21
    go_wp2_with ((go_at_call 40; refine HP.out.mono ?_; rintro e w' ⟨rfl, hbel⟩; have HBL := Lib.hid (HB0.out.trans (hbel.mono HB0.out.size)); have HX1 := Lib.hid (HX0.out.below hbel HX0.out.lt); have HL1 := Lib.hid (HL0.out.below hbel rfl); clear hbel HP; obtain ⟨b, o, rfl, hbB, hc⟩ := HL1.out.cells (by rw [mems_len]; omega); obtain ⟨c0, c1, c2, c3, c4, c5, c6⟩ := mem_at hbB hc (Below.refl _ _) HX.out; clear hc; have b0 : w'.cell? ⟨g, 0, none⟩ = some (.slice (some ⟨b, o, none⟩) ms.length c) := HL1.out.box.cell 0; obtain ⟨q0, q1, q2, q3, q4, q5, q6, f0, f1, f2, f3, f4, f5, f6⟩ := box7 HX1.out))
    rw [HG.out]
    refine bodyPost_ret (v := .tuple #[aggM x, .bool true]) ?_ rfl ⟨rfl, ?_⟩
    · rw [results_cell_tmp rfl]
      go_simp
      try rfl
    · iterate 7 (refine Below.setCell ?_ ?_ _; rotate_left; exact Nat.le_refl _)
      exact HBL.out
end Go.Proofs.YtjoifgeljjgflaaDoor
