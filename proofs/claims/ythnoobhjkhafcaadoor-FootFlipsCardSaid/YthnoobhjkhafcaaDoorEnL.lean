/- Layer 19: which lists are gone through; how many bytes, names; the reference's bytes. -/
import Derived.Test.YthnoobhjkhafcaaDoorEnPl
import Derived.Test.YthnoobhjkhafcaaDoorKFieldR
namespace Go.Proofs.YthnoobhjkhafcaaDoor
open Go.RowKit CrcP FieldP

/-- Members that aren't more, or longer, than are gone through. -/
def NarrowM (ms : List LM) : Prop := ms.length ≤ 250 ∧ ∀ m ∈ ms, m.nm.size ≤ 200

set_option maxHeartbeats 800000 in
theorem great19_any (A : Option Addr) (l c : Nat) (ms : List LM) (B : Nat) (w : World) (hl : ms.length = l) (hb : Cells w B A (ms.map LM.cells).flatten) :
    Calls Tryd.prog 7 #[.slice A l c] w fun e w' => ∃ o : Bool, e = .returned (.bool o) ∧ w = w' ∧ (o = false → NarrowM ms) := by
  have HC := Lib.hid hb
  have HFL := Lib.hid (mems_len ms)
  clear hb
  go_enter Tryd.func7, Tryd.ntmps7
  go_wp2
  go_loopg [3] l (fun gk i wr => ∃ k : Nat, k + gk = l ∧ k ≤ 300 ∧ i = .int .i64 k ∧ wr = w ∧ ∀ j f, j < k → ms[j]? = some f → f.nm.size ≤ 200)
  case atStart => exact ⟨0, by omega, by omega, rfl, rfl, fun j f hj => absurd hj (Nat.not_lt_zero _)⟩
  case round =>
    obtain ⟨k, hk, hk3, rfl, rfl, hall⟩ := hrel
    have HA19 := Lib.hid hall
    clear hall
    by_cases h : k < l
    · by_cases h3 : k < 300
      · obtain ⟨f, hx⟩ : ∃ x, ms[k]? = some x := ⟨_, List.getElem?_eq_getElem (by omega)⟩
        obtain ⟨b, o, rfl, hbB, hc⟩ := HC.out (by rw [HFL.out]; omega)
        have c0 := (mem_at hbB hc (Below.refl _ _) hx).c0
        have HX := Lib.hid hx
        have hd3 : decide ((k : Int) < 300) = true := by simp; omega
        have HK3 := Lib.hid h3
        have hw1 : IntKind.i64.wrap ((k : Int) + 1) = (k : Int) + 1 := IntWalk.i64_in _ (by omega)
        clear hc hx h3 hk3
        by_cases hs : 200 < f.nm.size
        · have hd : decide (200 < (f.nm.size : Int)) = true := by simp; omega
          clear hs
          go_wp2
          go_ret
          exact ⟨true, rfl, rfl, fun h => by cases h⟩
        · have hd : decide (200 < (f.nm.size : Int)) = false := by simp; omega
          have HNA : Hid (f.nm.size ≤ 200) := by show _ ≤ _; omega
          clear hs
          go_wp2
          go_roundg (gk - 1)
          case measure => omega
          case rel =>
            have hk3 := HK3.out
            exact ⟨k + 1, by omega, by omega, by go_num, rfl, fun j f' hj hf' => by
            by_cases hjk : j = k
            · subst hjk
              rw [HX.out] at hf'
              injection hf' with hf'
              subst hf'
              exact HNA.out
            · exact HA19.out j f' (by omega) hf'⟩
      · obtain rfl : k = 300 := by omega
        have hl2 : decide (250 < (l : Int)) = true := by simp; omega
        go_wp2
        go_ret
        exact ⟨true, by rw [← hl2]; rfl, rfl, fun h => by cases h⟩
    · obtain rfl : k = l := by omega
      go_wp2
      go_ret
      exact ⟨decide (250 < (k : Int)), rfl, rfl, fun hd => ⟨by simp at hd; omega, fun f hf => by
        obtain ⟨j, hj⟩ := List.mem_iff_getElem?.1 hf
        exact HA19.out j f (by have := (List.getElem?_eq_some_iff.1 hj).1; omega) hj⟩⟩

set_option maxHeartbeats 800000 in
theorem great20_any (A : Option Addr) (l c : Nat) (ms : List LM) (B : Nat) (w : World) (hl : ms.length = l) (hb : Cells w B A (ms.map LM.cells).flatten) :
    Calls Tryd.prog 19 #[.slice A l c] w fun e w' => ∃ o : Bool, e = .returned (.bool o) ∧ w = w' ∧ (o = false → NarrowM ms) := by
  have HC := Lib.hid hb
  have HFL := Lib.hid (mems_len ms)
  clear hb
  go_enter Tryd.func19, Tryd.ntmps19
  go_wp2
  go_loopg [3] l (fun gk i wr => ∃ k : Nat, k + gk = l ∧ k ≤ 300 ∧ i = .int .i64 k ∧ wr = w ∧ ∀ j f, j < k → ms[j]? = some f → f.nm.size ≤ 200)
  case atStart => exact ⟨0, by omega, by omega, rfl, rfl, fun j f hj => absurd hj (Nat.not_lt_zero _)⟩
  case round =>
    obtain ⟨k, hk, hk3, rfl, rfl, hall⟩ := hrel
    have HA20 := Lib.hid hall
    clear hall
    by_cases h : k < l
    · by_cases h3 : k < 300
      · obtain ⟨f, hx⟩ : ∃ x, ms[k]? = some x := ⟨_, List.getElem?_eq_getElem (by omega)⟩
        obtain ⟨b, o, rfl, hbB, hc⟩ := HC.out (by rw [HFL.out]; omega)
        have c0 := (mem_at hbB hc (Below.refl _ _) hx).c0
        have HX := Lib.hid hx
        have hd3 : decide ((k : Int) < 300) = true := by simp; omega
        have HK3 := Lib.hid h3
        have hw1 : IntKind.i64.wrap ((k : Int) + 1) = (k : Int) + 1 := IntWalk.i64_in _ (by omega)
        clear hc hx h3 hk3
        by_cases hs : 200 < f.nm.size
        · have hd : decide (200 < (f.nm.size : Int)) = true := by simp; omega
          clear hs
          go_wp2
          go_ret
          exact ⟨true, rfl, rfl, fun h => by cases h⟩
        · have hd : decide (200 < (f.nm.size : Int)) = false := by simp; omega
          have HNA : Hid (f.nm.size ≤ 200) := by show _ ≤ _; omega
          clear hs
          go_wp2
          go_roundg (gk - 1)
          case measure => omega
          case rel =>
            have hk3 := HK3.out
            exact ⟨k + 1, by omega, by omega, by go_num, rfl, fun j f' hj hf' => by
            by_cases hjk : j = k
            · subst hjk
              rw [HX.out] at hf'
              injection hf' with hf'
              subst hf'
              exact HNA.out
            · exact HA20.out j f' (by omega) hf'⟩
      · obtain rfl : k = 300 := by omega
        have hl2 : decide (250 < (l : Int)) = true := by simp; omega
        go_wp2
        go_ret
        exact ⟨true, by rw [← hl2]; rfl, rfl, fun h => by cases h⟩
    · obtain rfl : k = l := by omega
      go_wp2
      go_ret
      exact ⟨decide (250 < (k : Int)), rfl, rfl, fun hd => ⟨by simp at hd; omega, fun f hf => by
        obtain ⟨j, hj⟩ := List.mem_iff_getElem?.1 hf
        exact HA20.out j f (by have := (List.getElem?_eq_some_iff.1 hj).1; omega) hj⟩⟩

set_option maxHeartbeats 1000000 in
theorem enLen_any (A : Option Addr) (l c : Nat) (ms : List LM) (B : Nat) (w : World) (hl : ms.length = l) (hm : l ≤ 1099511627776) (hr : rowsM ms ≤ 1099511627776) (hb : Cells w B A (ms.map LM.cells).flatten) (hB : B ≤ w.heap.size) :
    Calls Tryd.prog 15 #[.slice A l c] w fun e w' => e = .returned (.int .i64 (rowsM ms : Nat)) ∧ Below w.heap.size w w' := by
  have HC := Lib.hid hb
  have HL := Lib.hid hl
  have HB := Lib.hid hB
  have HSM := Lib.hid (rowsM_cut ms)
  have HFL := Lib.hid (mems_len ms)
  clear hb hl hB
  go_enter Tryd.func15, Tryd.ntmps15
  go_wp2
  go_loopg [3, 8] l (fun gk v i wr => ∃ k : Nat, k + gk = l ∧ i = .int .i64 k ∧ v = .int .i64 (rowsM (ms.take k) : Nat) ∧ Below w.heap.size w wr)
  case atStart => exact ⟨0, by omega, rfl, rfl, Below.refl _ _⟩
  case round =>
    obtain ⟨k, hk, rfl, rfl, hbel⟩ := hrel
    have HBL := Lib.hid hbel
    clear hbel
    by_cases h : k < l
    · obtain ⟨m, hx⟩ : ∃ x, ms[k]? = some x := ⟨_, List.getElem?_eq_getElem (by have := HL.out; omega)⟩
      obtain ⟨b, o, rfl, hbB, hc⟩ := HC.out (by rw [HFL.out, HL.out]; omega)
      obtain ⟨c0, c1, c2, c3, c4, c5, c6⟩ := mem_at hbB hc (hBw_below HBL.out HB.out) hx
      have HS1 := Lib.hid (rowsM_take hx)
      have h1 := HSM.out k
      have h2 := HSM.out (k + 1)
      rw [HS1.out] at h2
      clear hc hx
      go_wp2
      go_roundg (gk - 1)
      case measure => omega
      case rel => exact ⟨k + 1, by omega, by go_num, by rw [HS1.out]; go_num, HBL.out.alloc HBL.out.size _⟩
    · obtain rfl : k = l := by omega
      have HK : Hid (rowsM (ms.take k) = rowsM ms) := by show _ = _; rw [List.take_of_length_le (by have := HL.out; omega)]
      rw [HK.out]
      go_wp2
      go_ret
      exact ⟨rfl, HBL.out⟩

theorem strElem : Elem Tryd.prog 29 9 (.string ⟨#[]⟩) 1 16 := Elem.of Tryd.underlying29 (by kernel_rfl) rfl (by omega)
def nameCells (ms : List LM) : List Value := ms.map fun m => Value.string m.nm
set_option maxHeartbeats 1000000 in
theorem enNames_any (A : Option Addr) (l c : Nat) (ms : List LM) (B : Nat) (w : World) (hl : ms.length = l) (hm : l ≤ 1000000000) (hb : Cells w B A (ms.map LM.cells).flatten) (hB : B ≤ w.heap.size) :
    Calls Tryd.prog 11 #[.slice A l c] w fun e w' => ∃ A' c', e = .returned (.slice A' l c') ∧ w'.ownsRow w.heap.size 9 1 (.slice A' l c') l (nameCells ms) ∧ Below w.heap.size w w' := by
  have HC := Lib.hid hb
  have HL := Lib.hid hl
  have HB := Lib.hid hB
  have HFL := Lib.hid (mems_len ms)
  clear hb hl hB
  go_enter Tryd.func11, Tryd.ntmps11
  go_wp2
  go_loopg [3, 8] l (fun gk v i wr => ∃ k : Nat, k + gk = l ∧ i = .int .i64 k ∧ wr.ownsRow w.heap.size 9 1 v k (nameCells (ms.take k)) ∧ Below w.heap.size w wr)
  case atStart => exact ⟨0, by omega, rfl, World.ownsRow_nil _ _ _ _, Below.refl _ _⟩
  case round =>
    obtain ⟨k, hk, rfl, hown, hbel⟩ := hrel
    have HOWN := Lib.hid hown
    have HBL := Lib.hid hbel
    clear hown hbel
    obtain ⟨Ak, ck, rfl⟩ := own_form' HOWN.out
    by_cases h : k < l
    · obtain ⟨m, hx⟩ : ∃ x, ms[k]? = some x := ⟨_, List.getElem?_eq_getElem (by have := HL.out; omega)⟩
      obtain ⟨b, o, rfl, hbB, hc⟩ := HC.out (by rw [HFL.out, HL.out]; omega)
      obtain ⟨c0, c1, c2, c3, c4, c5, c6⟩ := mem_at hbB hc (hBw_below HBL.out HB.out) hx
      have HS1 : Hid (nameCells (ms.take (k + 1)) = nameCells (ms.take k) ++ [.string m.nm]) := by show _ = _; unfold nameCells; rw [List.take_add_one, hx]; simp
      obtain ⟨W0, hW0⟩ : ∃ W0, wr.alloc (.cells #[.string m.nm, .int .i64 m.at_, .int .i64 m.fr, .int .i64 m.ar, .int .i64 m.sz, .int .u32 m.su, .int .i64 m.me] 34) = W0 := ⟨_, rfl⟩
      have HX0 : Hid (Box W0 wr.heap.size #[.string m.nm, .int .i64 m.at_, .int .i64 m.fr, .int .i64 m.ar, .int .i64 m.sz, .int .u32 m.su, .int .i64 m.me] 34) := by rw [← hW0]; exact heap_alloc_new wr _
      have HO0 : Hid (W0.ownsRow w.heap.size 9 1 (.slice Ak k ck) k (nameCells (ms.take k))) := by rw [← hW0]; exact HOWN.out.alloc _
      have HB0 : Hid (Below w.heap.size w W0) := by rw [← hW0]; exact HBL.out.alloc HBL.out.size _
      have x0 : W0.cell? ⟨wr.heap.size, 0, none⟩ = some (.string m.nm) := HX0.out.cell 0
      have hz0 := HB0.out.size
      clear hc hx
      go_wp2_with (at_builtin; go_must (skip; refine wpList_app1 _ strElem rfl (.tmp 12) (.tmp 15) rfl w.heap.size (.slice Ak k ck) k _ rfl HO0.out _ rfl rfl (by simp [Value.oneCell']) (by unfold maxLen; omega) (by omega) hz0 ?_; intro A3 c3 w3 hA; have HA := Lib.hid hA; clear hA))
      go_roundg (gk - 1)
      case measure => omega
      case rel => exact ⟨k + 1, by omega, by go_num, by rw [HS1.out]; exact HA.out.own, HA.out.below HB0.out HB0.out.size (fun q hq => (HO0.out.lt q hq).1)⟩
    · obtain rfl : k = l := by omega
      have HK : Hid (nameCells (ms.take k) = nameCells ms) := by show _ = _; rw [List.take_of_length_le (by have := HL.out; omega)]
      rw [HK.out] at HOWN
      go_wp2
      go_ret
      exact ⟨Ak, ck, rfl, HOWN.out, HBL.out⟩
end Go.Proofs.YthnoobhjkhafcaaDoor
