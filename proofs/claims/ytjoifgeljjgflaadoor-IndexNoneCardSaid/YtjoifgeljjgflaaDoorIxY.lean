/- Layer 24: an index is asked: all, how many bytes, a member, whether there is room. -/
import Derived.Test.YtjoifgeljjgflaaDoorIxX
namespace Go.Proofs.YtjoifgeljjgflaaDoor
open Go.RowKit

def LM.zero : LM := ⟨⟨#[]⟩, 0, 0, 0, 0, 0, 0⟩
/-- The member of a name; a zero one, if there is none. -/
def getM (ms : List LM) (s : ByteArray) : LM := (findK LM.nm ms s).getD LM.zero
theorem getM_there {ms : List LM} (h : RisM ms) {s : ByteArray} {x : LM} (hx : ms[posK LM.nm ms s]? = some x) (e : x.nm = s) : getM ms s = x := by unfold getM; rw [findK_there h hx e]; rfl
theorem getM_not {ms : List LM} {s : ByteArray} (h : hasK LM.nm ms s = false) : getM ms s = LM.zero := by unfold getM; rw [findK_not h]; rfl
abbrev aggM (m : LM) : Value := .agg #[.string m.nm, .int .i64 m.at_, .int .i64 m.fr, .int .i64 m.ar, .int .i64 m.sz, .int .u32 m.su, .int .i64 m.me]

theorem box7 {w : World} {g : Nat} {a b c d e f h : Value} {t : TypeId} (H : Box w g #[a, b, c, d, e, f, h] t) : w.cell? ⟨g, 0, none⟩ = some a ∧ w.cell? ⟨g, 1, none⟩ = some b ∧ w.cell? ⟨g, 2, none⟩ = some c ∧ w.cell? ⟨g, 3, none⟩ = some d ∧ w.cell? ⟨g, 4, none⟩ = some e ∧ w.cell? ⟨g, 5, none⟩ = some f ∧ w.cell? ⟨g, 6, none⟩ = some h ∧
    w.frozen? ⟨g, 0, none⟩ = false ∧ w.frozen? ⟨g, 1, none⟩ = false ∧ w.frozen? ⟨g, 2, none⟩ = false ∧ w.frozen? ⟨g, 3, none⟩ = false ∧ w.frozen? ⟨g, 4, none⟩ = false ∧ w.frozen? ⟨g, 5, none⟩ = false ∧ w.frozen? ⟨g, 6, none⟩ = false :=
  ⟨H.cell 0, H.cell 1, H.cell 2, H.cell 3, H.cell 4, H.cell 5, H.cell 6, box_free H _, box_free H _, box_free H _, box_free H _, box_free H _, box_free H _, box_free H _⟩

set_option maxHeartbeats 400000 in
theorem ixAll_any (base g : Nat) (A : Option Addr) (c : Nat) (ms : List LM) (w : World) (h : LX w base g A c ms) :
    Calls Tryd.prog 14 #[.pointer (some ⟨g, 0, none⟩)] w fun e w' => ∃ A' c', e = .returned (.slice A' ms.length c') ∧ w'.ownsRow w.heap.size 32 7 (.slice A' ms.length c') ms.length (memCells ms) ∧ Below w.heap.size w w' := by
  have HM := Lib.hid (ixMembers_any base g A c ms w h)
  have HS := Lib.hid (ixClone_any A ms.length c ms w.heap.size w rfl (by have := h.few; omega) h.cells)
  clear h
  go_enter Tryd.func14, Tryd.ntmps14
  go_wp2_with (first
    | (go_at_call 34; refine HM.out.mono ?_; rintro e w' ⟨rfl, rfl⟩; clear HM)
    | (go_at_call 28; refine HS.out.mono ?_; rintro e w' ⟨A', c', rfl, hown, hbel⟩; have HOWN := Lib.hid hown; have HBL := Lib.hid hbel; clear hbel hown HS))
  go_ret
  exact ⟨_, _, rfl, HOWN.out, HBL.out⟩
set_option maxHeartbeats 400000 in
theorem ixAll_nil (w : World) :
    Calls Tryd.prog 14 #[.pointer none] w fun e w' => ∃ A' c', e = .returned (.slice A' 0 c') ∧ Below w.heap.size w w' := by
  have HM := Lib.hid (ixMembers_nil w)
  have HS := Lib.hid (ixClone_any none 0 0 [] w.heap.size w rfl (by omega) (Cells.nil _ _ _))
  go_enter Tryd.func14, Tryd.ntmps14
  go_wp2_with (first
    | (go_at_call 34; refine HM.out.mono ?_; rintro e w' ⟨rfl, rfl⟩; clear HM)
    | (go_at_call 28; refine HS.out.mono ?_; rintro e w' ⟨A', c', rfl, hown, hbel⟩; have HBL := Lib.hid hbel; clear hbel hown HS))
  go_ret
  exact ⟨_, _, rfl, HBL.out⟩
set_option maxHeartbeats 400000 in
theorem ixBytes_any (base g : Nat) (A : Option Addr) (c : Nat) (ms : List LM) (w : World) (h : LX w base g A c ms) (hr : rowsM ms ≤ 1000000000) :
    Calls Tryd.prog 15 #[.pointer (some ⟨g, 0, none⟩)] w fun e w' => e = .returned (.int .i64 ((rowsM ms + 20 : Nat) : Int)) ∧ Below w.heap.size w w' := by
  have c0 : w.cell? ⟨g, 0, none⟩ = some (.slice A ms.length c) := h.box.cell 0
  have HS := Lib.hid (enLen_any A ms.length c ms w.heap.size w rfl (by have := h.few; omega) (by omega) h.cells (Nat.le_refl _))
  clear h
  go_enter Tryd.func15, Tryd.ntmps15
  go_wp2_with (go_at_call 35; refine HS.out.mono ?_; rintro e w' ⟨rfl, hbel⟩; have HBL := Lib.hid hbel; clear hbel HS)
  go_ret
  exact ⟨rfl, HBL.out⟩
set_option maxHeartbeats 400000 in
theorem ixBytes_nil (w : World) : Calls Tryd.prog 15 #[.pointer none] w fun e w' => e = .returned (.int .i64 0) ∧ w = w' := by
  go_enter Tryd.func15, Tryd.ntmps15
  go_wp2
  go_ret
  exact ⟨rfl, rfl⟩

set_option maxHeartbeats 1000000 in
theorem ixGet_any (base g : Nat) (A : Option Addr) (c : Nat) (ms : List LM) (s : ByteArray) (w : World) (h : LX w base g A c ms) :
    Calls Tryd.prog 21 #[.pointer (some ⟨g, 0, none⟩), .string s] w fun e w' => e = .returned (.tuple #[aggM (getM ms s), .bool (hasK LM.nm ms s)]) ∧ Below w.heap.size w w' := by
  obtain ⟨W0, hW0⟩ : ∃ W0, w.alloc (.cells #[.string ⟨#[]⟩, .int .i64 0, .int .i64 0, .int .i64 0, .int .i64 0, .int .u32 0, .int .i64 0] 32) = W0 := ⟨_, rfl⟩
  have HB0 : Hid (Below w.heap.size w W0) := by rw [← hW0]; exact (Below.refl _ w).alloc (Nat.le_refl _) _
  have HX0 : Hid (Box W0 w.heap.size #[.string ⟨#[]⟩, .int .i64 0, .int .i64 0, .int .i64 0, .int .i64 0, .int .u32 0, .int .i64 0] 32) := by rw [← hW0]; exact heap_alloc_new w _
  have HL0 : Hid (LX W0 base g A c ms) := h.below HB0.out rfl
  have HP := Lib.hid (ixPlace_any base g A c ms s W0 HL0.out)
  have HR := Lib.hid h.ris
  obtain ⟨t, ht⟩ : ∃ t, hasK LM.nm ms s = t := ⟨_, rfl⟩
  rw [ht] at HP ⊢
  have HF := Lib.hid h.few
  clear h
  cases t with
  | false =>
    have HG := Lib.hid (getM_not ht)
    clear ht
    go_enter Tryd.func21, Tryd.ntmps21
    go_wp2_with ((go_at_call 40; refine HP.out.mono ?_; rintro e w' ⟨rfl, hbel⟩; have HBL := Lib.hid (HB0.out.trans (hbel.mono HB0.out.size)); have HX1 := Lib.hid (HX0.out.below hbel HX0.out.lt); clear hbel HP; obtain ⟨q0, q1, q2, q3, q4, q5, q6, f0, f1, f2, f3, f4, f5, f6⟩ := box7 HX1.out))
    rw [HG.out]
    refine bodyPost_ret (v := .tuple #[aggM LM.zero, .bool false]) ?_ rfl ⟨rfl, ?_⟩
    · rw [results_cell_tmp rfl]
      go_simp
      simp [LM.zero]
    · iterate 7 (refine Below.setCell ?_ ?_ _; rotate_left; exact Nat.le_refl _)
      exact HBL.out
  | true =>
    obtain ⟨x, hx, hxn⟩ := hasK_there HR.out ht
    have HG := Lib.hid (getM_there HR.out hx hxn)
    have HX := Lib.hid hx
    have hlt := (List.getElem?_eq_some_iff.1 hx).1
    obtain ⟨p, hp⟩ : ∃ p, posK LM.nm ms s = p := ⟨_, rfl⟩
    rw [hp] at HX HP hlt
    clear ht hx hxn hp
    have hpi : (p : Int) < (ms.length : Int) := by omega
    go_enter Tryd.func21, Tryd.ntmps21
    go_wp2_with ((go_at_call 40; refine HP.out.mono ?_; rintro e w' ⟨rfl, hbel⟩; have HBL := Lib.hid (HB0.out.trans (hbel.mono HB0.out.size)); have HX1 := Lib.hid (HX0.out.below hbel HX0.out.lt); have HL1 := Lib.hid (HL0.out.below hbel rfl); clear hbel HP; obtain ⟨b, o, rfl, hbB, hc⟩ := HL1.out.cells (by rw [mems_len]; omega); obtain ⟨c0, c1, c2, c3, c4, c5, c6⟩ := mem_at hbB hc (Below.refl _ _) HX.out; clear hc; have b0 : w'.cell? ⟨g, 0, none⟩ = some (.slice (some ⟨b, o, none⟩) ms.length c) := HL1.out.box.cell 0; obtain ⟨q0, q1, q2, q3, q4, q5, q6, f0, f1, f2, f3, f4, f5, f6⟩ := box7 HX1.out))
    rw [HG.out]
    refine bodyPost_ret (v := .tuple #[aggM x, .bool true]) ?_ rfl ⟨rfl, ?_⟩
    · rw [results_cell_tmp rfl]
      go_simp
      try rfl
    · iterate 7 (refine Below.setCell ?_ ?_ _; rotate_left; exact Nat.le_refl _)
      exact HBL.out
end Go.Proofs.YtjoifgeljjgflaaDoor
