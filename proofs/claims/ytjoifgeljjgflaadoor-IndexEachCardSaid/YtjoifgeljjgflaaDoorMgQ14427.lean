/- Layer 19, plainly: what was put is taken; what was taken is put as it was. -/
import Derived.Test.YtjoifgeljjgflaaDoorMgQ14426
import Derived.Test.YtjoifgeljjgflaaDoorMgQ14413
namespace Go.Proofs.YtjoifgeljjgflaaDoor
open Go.RowKit CrcP FieldP

end Go.Proofs.YtjoifgeljjgflaaDoor
/- Layer 19: which lists are gone through; how many bytes, names; the reference's bytes. -/
namespace Go.Proofs.YtjoifgeljjgflaaDoor
open Go.RowKit CrcP FieldP

/-- Members that aren't more, or longer, than are gone through. -/
def NarrowM (ms : List LM) : Prop := ms.length ≤ 250 ∧ ∀ m ∈ ms, m.nm.size ≤ 200

set_option maxHeartbeats 1000000 in
theorem enLen_any (A : Option Addr) (l c : Nat) (ms : List LM) (B : Nat) (w : World) (hl : ms.length = l) (hm : l ≤ 1099511627776) (hr : rowsM ms ≤ 1099511627776) (hb : Cells w B A (ms.map LM.cells).flatten) (hB : B ≤ w.heap.size) :
    Calls Tryd.prog 35 #[.slice A l c] w fun e w' => e = .returned (.int .i64 (rowsM ms : Nat)) ∧ Below w.heap.size w w' := by
  have HC := Lib.hid hb
  have HL := Lib.hid hl
  have HB := Lib.hid hB
  have HSM := Lib.hid (rowsM_cut ms)
  have HFL := Lib.hid (mems_len ms)
  clear hb hl hB
  go_enter Tryd.func35, Tryd.ntmps35
  go_wp2
  go_loopg [3, 8] l (fun gk v i wr => ∃ k : Nat, k + gk = l ∧ i = .int .i64 k ∧ v = .int .i64 (rowsM (ms.take k) : Nat) ∧ Below w.heap.size w wr)
  case atStart => exact ⟨0, by omega, rfl, rfl, Below.refl _ _⟩
  case round =>
    obtain ⟨k, hk, rfl, rfl, hbel⟩ := hrel
    have HBL := Lib.hid hbel
    clear hbel
    by_cases h : k < l
    · obtain ⟨m, hx⟩ : ∃ x, ms[k]? = some x := ⟨_, List.getElem?_eq_getElem (by have := HL.out; omega)⟩
      obtain ⟨b, o, rfl, hbB, hc⟩ := HC.out (by rw [HFL.out, HL.out]; omega)
      obtain ⟨c0, c1, c2, c3, c4, c5, c6⟩ := mem_at hbB hc (hBw_below HBL.out HB.out) hx
      have HS1 := Lib.hid (rowsM_take hx)
      have h1 := HSM.out k
      have h2 := HSM.out (k + 1)
      rw [HS1.out] at h2
      clear hc hx
      go_wp2
      go_roundg (gk - 1)
      case measure => omega
      case rel => exact ⟨k + 1, by omega, by go_num, by rw [HS1.out]; go_num, HBL.out.alloc HBL.out.size _⟩
    · obtain rfl : k = l := by omega
      have HK : Hid (rowsM (ms.take k) = rowsM ms) := by show _ = _; rw [List.take_of_length_le (by have := HL.out; omega)]
      rw [HK.out]
      go_wp2
      go_ret
      exact ⟨rfl, HBL.out⟩

end Go.Proofs.YtjoifgeljjgflaaDoor
