/- Layer 25: a model of nothing, step by step (the chapter's example). -/
import Derived.Test.YtaneifmbjkolaaaDoorRows
import Derived.Test.YtaneifmbjkolaaaDoorGrow
import Derived.Test.YtaneifmbjkolaaaDoorFoot
import Derived.WalkMore
import Derived.Deep.Cut
import Derived.Deep.DeepCutAuto
import Derived.Deep.LoopGhost
import Derived.BigQuiet
import Derived.RegionTactic
namespace Go.Proofs.YtaneifmbjkolaaaDoor
open Go.RowKit

/-- A model of nothing in memory: at mb; its one state at sb. -/
structure MB (w : World) (mb sb : Nat) : Prop where
  mod : w.heap[mb]? = some (.cells #[.slice (some ⟨sb, 0, none⟩) 1 1, .bool false, .slice none 0 0, .bool false, .string ⟨#[]⟩, .slice none 0 0, .bool false] 65 (0, 0))
  st : w.heap[sb]? = some (.cells #[.bool false, .slice none 0 0] 52 (0, 0))
  ne : mb ≠ sb
theorem MB.below {w w' : World} {mb sb : Nat} (h : MB w mb sb) (hb : Below w.heap.size w w') : MB w' mb sb :=
  ⟨(hb.block _ (Array.getElem?_eq_some_iff.1 h.mod).1).trans h.mod, (hb.block _ (Array.getElem?_eq_some_iff.1 h.st).1).trans h.st, h.ne⟩
set_option maxHeartbeats 400000 in
theorem new25_any (w : World) : Calls Tryd.prog 21 #[] w fun e w' => e = .returned (.pointer (some ⟨w.heap.size + 1, 0, none⟩)) ∧ MB w' (w.heap.size + 1) w.heap.size ∧ Below w.heap.size w w' := by
  go_enter Tryd.func21, Tryd.ntmps21
  go_wp2
  go_ret
  refine ⟨rfl, ⟨?_, ?_, by omega⟩, ((Below.refl _ w).alloc (Nat.le_refl _) _).alloc (by simp) _⟩
  · have h := heap_alloc_new (w.alloc (.cells #[.bool false, .slice none 0 0] 52)) (.cells #[.slice (some ⟨w.heap.size, 0, none⟩) 1 1, .bool false, .slice none 0 0, .bool false, .string ⟨#[]⟩, .slice none 0 0, .bool false] 65)
    rw [World.size_alloc] at h
    exact h
  · exact (Below.heap_alloc _ _ _ (by simp)).trans (heap_alloc_new w _)
set_option maxRecDepth 100000 in
set_option maxHeartbeats 400000 in
theorem equal25_nil (w : World) : Calls Tryd.prog 24 #[.slice none 0 0, .slice none 0 0] w fun e w' => e = .returned (.bool true) ∧ w = w' := by
  have k1 := run_string_of (P := Tryd.prog) (w := w) (B := 0) (A := none) (l := 0) (bs := []) (c := 0) 23 9 5 Tryd.underlying23 Tryd.underlying5 Tryd.underlying9 (Cells.nil _ _ _) rfl
  go_enter Tryd.func24, Tryd.ntmps24
  go_wp2
  go_ret
  exact ⟨rfl, rfl⟩
set_option maxHeartbeats 400000 in
theorem sequal25_nil (w : World) : Calls Tryd.prog 43 #[.slice none 0 0, .slice none 0 0] w fun e w' => e = .returned (.bool true) ∧ w = w' := by
  go_enter Tryd.func43, Tryd.ntmps43
  go_wp2
  go_loopg [13] 0 (fun gk i wr => gk = 0 ∧ i = .int .i64 0 ∧ wr = w)
  case atStart => exact ⟨rfl, rfl, rfl⟩
  case round =>
    obtain ⟨rfl, rfl, rfl⟩ := hrel
    go_wp2
    go_ret
    exact ⟨rfl, rfl⟩
set_option maxHeartbeats 400000 in
theorem efunc25_nil (f : Value) (w : World) : Calls Tryd.prog 22 #[.slice none 0 0, .slice none 0 0, f] w fun e w' => e = .returned (.bool true) ∧ w = w' := by
  go_enter Tryd.func22, Tryd.ntmps22
  go_wp2
  go_loopg [17] 0 (fun gk i wr => gk = 0 ∧ i = .int .i64 0 ∧ wr = w)
  case atStart => exact ⟨rfl, rfl, rfl⟩
  case round =>
    obtain ⟨rfl, rfl, rfl⟩ := hrel
    go_wp2
    go_ret
    exact ⟨rfl, rfl⟩
set_option maxHeartbeats 400000 in
theorem same25_nil (w : World) : Calls Tryd.prog 8 #[.slice none 0 0, .slice none 0 0] w fun e w' => e = .returned (.bool true) ∧ w = w' := by
  go_enter Tryd.func8, Tryd.ntmps8
  go_wp2_with fail
  refine (efunc25_nil _ w).mono ?_
  rintro e w' ⟨rfl, rfl⟩
  go_wp2
  go_ret
  exact ⟨rfl, rfl⟩
set_option maxHeartbeats 400000 in
/-- One errno in a row. -/
theorem index25_any (b o c : Nat) (x : Int) (w : World) (h : w.cell? ⟨b, o, none⟩ = some (.int .i64 7)) (hx : x = 7 ∨ x = 0) : Calls Tryd.prog 49 #[.slice (some ⟨b, o, none⟩) 1 c, .int .i64 x] w fun e w' => e = .returned (.int .i64 (if x = 7 then 0 else -1)) ∧ w = w' := by
  rcases hx with rfl | rfl
  · go_enter Tryd.func49, Tryd.ntmps49
    go_wp2
    go_loopg [8] 1 (fun gk i wr => gk = 1 ∧ i = .int .i64 0 ∧ wr = w)
    case atStart => exact ⟨rfl, rfl, rfl⟩
    case round =>
      obtain ⟨rfl, rfl, rfl⟩ := hrel
      go_wp2
      go_ret
      exact ⟨rfl, rfl⟩
  · go_enter Tryd.func49, Tryd.ntmps49
    go_wp2
    go_loopg [8] 1 (fun gk i wr => (gk = 1 ∧ i = .int .i64 0 ∧ wr = w) ∨ (gk = 0 ∧ i = .int .i64 1 ∧ wr = w))
    case atStart => exact .inl ⟨rfl, rfl, rfl⟩
    case round =>
      rcases hrel with ⟨rfl, rfl, rfl⟩ | ⟨rfl, rfl, rfl⟩
      · go_wp2
        go_roundg 0
        case measure => omega
        case rel => exact .inr ⟨rfl, by go_num, rfl⟩
      · go_wp2
        go_ret
        exact ⟨rfl, rfl⟩
set_option maxHeartbeats 400000 in
theorem contains25_any (b o c : Nat) (x : Int) (w : World) (h : w.cell? ⟨b, o, none⟩ = some (.int .i64 7)) (hx : x = 7 ∨ x = 0) : Calls Tryd.prog 39 #[.slice (some ⟨b, o, none⟩) 1 c, .int .i64 x] w fun e w' => e = .returned (.bool (decide (x = 7))) ∧ w = w' := by
  have HI := Lib.hid (index25_any b o c x w h hx)
  rcases hx with rfl | rfl
  · rw [if_pos rfl] at HI
    go_enter Tryd.func39, Tryd.ntmps39
    go_wp2_with fail
    refine HI.out.mono ?_
    rintro e w' ⟨rfl, rfl⟩
    go_wp2
    go_ret
    exact ⟨rfl, rfl⟩
  · rw [if_neg (by decide)] at HI
    go_enter Tryd.func39, Tryd.ntmps39
    go_wp2_with fail
    refine HI.out.mono ?_
    rintro e w' ⟨rfl, rfl⟩
    go_wp2
    go_ret
    exact ⟨rfl, rfl⟩
theorem errElem : Elem Tryd.prog 73 45 (.int .i64 0) 1 8 := Elem.of Tryd.underlying73 (by kernel_rfl) rfl (by omega)
/-- A row of the one errno 7. -/
def Seven (w : World) (e : Ending) (w' : World) : Prop := ∃ b o c, e = .returned (.slice (some ⟨b, o, none⟩) 1 c) ∧ w'.cell? ⟨b, o, none⟩ = some (.int .i64 7) ∧ b < w'.heap.size ∧ Below w.heap.size w w'
set_option maxHeartbeats 400000 in
theorem either25_any (mb sb : Nat) (w : World) (h : MB w mb sb) : Calls Tryd.prog 50 #[.pointer (some ⟨mb, 0, none⟩), .int .i64 0, .int .i64 7] w fun e w' => Seven w e w' := by
  have c0 := cell_of_row w mb 0 _ _ _ h.mod
  have s0 := cell_of_row w sb 0 _ _ _ h.st
  have s1 := cell_of_row w sb 1 _ _ _ h.st
  clear h
  go_enter Tryd.func50, Tryd.ntmps50
  go_wp2
  go_loopg [7, 15] 1 (fun gk s7 si wr => (gk = 1 ∧ s7 = .slice none 0 0 ∧ si = .int .i64 0 ∧ wr = w) ∨ (gk = 0 ∧ si = .int .i64 1 ∧ ∃ A c, s7 = .slice A 1 c ∧ wr.ownsRow w.heap.size 45 1 (.slice A 1 c) 1 [.int .i64 7] ∧ Below w.heap.size w wr))
  case atStart => exact .inl ⟨rfl, rfl, rfl, rfl⟩
  case round =>
    rcases hrel with ⟨rfl, rfl, rfl, rfl⟩ | ⟨rfl, rfl, A, c, rfl, ho, hb⟩
    · go_upto_region 5 with fail
      obtain ⟨W1, hW1⟩ : ∃ W1, wr.alloc (.cells #[.bool false, .slice none 0 0] 52) = W1 := ⟨_, rfl⟩
      have HX1 : Hid (W1.heap[wr.heap.size]? = some (.cells #[.bool false, .slice none 0 0] 52 (0, 0))) := by show _ = _; rw [← hW1]; exact heap_alloc_new wr _
      have x0 : W1.cell? ⟨wr.heap.size, 0, none⟩ = some (.bool false) := cell_of_row W1 _ 0 _ _ _ HX1.out
      have HB1 : Hid (Below wr.heap.size wr W1) := by show Below _ _ _; rw [← hW1]; exact (Below.refl _ wr).alloc (Nat.le_refl _) _
      rw [hW1]
      clear hW1
      go_wp2_with (at_builtin; refine wpList_app1 W1 errElem rfl (.tmp 25) (.tmp 27) rfl wr.heap.size (.slice none 0 0) 0 [] rfl (World.ownsRow_nil _ _ _ _) _ rfl rfl (by simp [Value.oneCell']) (by unfold maxLen; omega) (by omega) HB1.out.size ?_; intro A' c' w2 hA; have HA := Lib.hid hA; clear hA)
      go_roundg 0
      case measure => omega
      case rel => exact .inr ⟨rfl, by go_num, A', c', rfl, HA.out.own, HA.out.below HB1.out HB1.out.size (fun k hk => by cases hk)⟩
    · have HO := Lib.hid ho
      have HB := Lib.hid hb
      clear ho hb
      go_wp2
      go_ret
      obtain ⟨b, o, rfl, hbl, hcc⟩ := (Cells.of_own HO.out) (by simp)
      exact ⟨b, o, c, rfl, hcc 0 _ rfl, hbl, HB.out⟩
set_option maxHeartbeats 400000 in
theorem errors25_any (mb sb : Nat) (w : World) (h : MB w mb sb) : Calls Tryd.prog 40 #[.pointer (some ⟨mb, 0, none⟩), .agg #[.int .i64 2, .string ⟨#[]⟩, .slice none 0 0, .int .i64 0, .slice none 0 0, .int .i64 0, .int .u8 0]] w fun e w' => Seven w e w' := by
  obtain ⟨W1, hW1⟩ : ∃ W1, w.alloc (.cells #[.int .i64 2, .string ⟨#[]⟩, .slice none 0 0, .int .i64 0, .slice none 0 0, .int .i64 0, .int .u8 0] 44) = W1 := ⟨_, rfl⟩
  have HB1 : Hid (Below w.heap.size w W1) := by show Below _ _ _; rw [← hW1]; exact (Below.refl _ w).alloc (Nat.le_refl _) _
  have HX1 : Hid (W1.heap[w.heap.size]? = some (.cells #[.int .i64 2, .string ⟨#[]⟩, .slice none 0 0, .int .i64 0, .slice none 0 0, .int .i64 0, .int .u8 0] 44 (0, 0))) := by show _ = _; rw [← hW1]; exact heap_alloc_new w _
  have x0 : W1.cell? ⟨w.heap.size, 0, none⟩ = some (.int .i64 2) := cell_of_row W1 _ 0 _ _ _ HX1.out
  have hm := h.below HB1.out
  have m1 := cell_of_row W1 mb 1 _ _ _ hm.mod
  have HE := Lib.hid (either25_any mb sb W1 hm)
  clear h hm
  go_enter Tryd.func40, Tryd.ntmps40
  go_wp2_with fail
  refine HE.out.mono ?_
  rintro e w2 ⟨b, o, c, rfl, hc, hbl, hb⟩
  have HC := Lib.hid hc
  have HBL := Lib.hid hbl
  have HB2 : Hid (Below w.heap.size w w2) := HB1.out.trans (hb.mono HB1.out.size)
  clear hc hbl hb
  go_wp2
  go_ret
  exact ⟨b, o, c, rfl, HC.out, HBL.out, HB2.out⟩
end Go.Proofs.YtaneifmbjkolaaaDoor
