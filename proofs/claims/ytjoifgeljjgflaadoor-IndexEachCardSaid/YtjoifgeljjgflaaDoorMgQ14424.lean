/- Layer 19: a directory's bytes. -/
import Derived.Test.YtjoifgeljjgflaaDoorMgQ14422
import Derived.Test.YtjoifgeljjgflaaDoorMgQ14412
import Derived.Test.YtjoifgeljjgflaaDoorMgQ14410
import Derived.OpenShut
namespace Go.Proofs.YtjoifgeljjgflaaDoor
open Go.RowKit CrcP FieldP

/-- How many bytes members take. -/
def rowsM (ms : List LM) : Nat := (ms.map fun m => 18 + m.nm.size).sum
theorem rowsM_take {ms : List LM} {k : Nat} {m : LM} (h : ms[k]? = some m) : rowsM (ms.take (k + 1)) = rowsM (ms.take k) + (18 + m.nm.size) := by
  unfold rowsM
  rw [List.take_add_one, h]
  simp
theorem rowsM_le {ms : List LM} {n : Nat} (h : ∀ m ∈ ms, m.nm.size ≤ n) : rowsM ms ≤ ms.length * (18 + n) := by
  induction ms with
  | nil => exact Nat.zero_le _
  | cons m l ih =>
    have := ih (fun m hm => h m (by simp [hm]))
    have h1 := h m (by simp)
    unfold rowsM at this ⊢
    rw [List.map_cons, List.sum_cons, List.length_cons, Nat.succ_mul]
    omega
theorem rowsM_cut (ms : List LM) (k : Nat) : rowsM (ms.take k) ≤ rowsM ms := by
  have h : rowsM ms = rowsM (ms.take k) + rowsM (ms.drop k) := by
    unfold rowsM
    rw [← List.sum_append, ← List.map_append, List.take_append_drop]
  omega
end Go.Proofs.YtjoifgeljjgflaaDoor
/- Layer 24: members and calls that came in. -/
namespace Go.Proofs.YtjoifgeljjgflaaDoor
open Go.RowKit

abbrev ixMemSh : Sh := .cons .str (.cons (.int .i64) (.cons (.int .i64) (.cons (.int .i64) (.cons (.int .i64) (.cons (.int .u32) (.cons (.int .i64) .nil))))))
theorem ixMem_lies {w : World} {x : List Value} (h : Lies w ixMemSh x) : ∃ m : LM, x = m.cells ∧ m.Ok := by
  obtain ⟨a, r1, rfl, _, _, ⟨nm, rfl, hn⟩, h1⟩ := h
  obtain ⟨b, r2, rfl, _, _, ⟨at_, rfl, _⟩, h2⟩ := h1
  obtain ⟨c, r3, rfl, _, _, ⟨fr, rfl, hf⟩, h3⟩ := h2
  obtain ⟨d, r4, rfl, _, _, ⟨ar, rfl, _⟩, h4⟩ := h3
  obtain ⟨e, r5, rfl, _, _, ⟨sz, rfl, _⟩, h5⟩ := h4
  obtain ⟨f, r6, rfl, _, _, ⟨su, rfl, hs⟩, h6⟩ := h5
  obtain ⟨g, r7, rfl, _, _, ⟨me, rfl, _⟩, h7⟩ := h6
  have h7' : r7 = [] := h7
  subst h7'
  have hfb := bounds_i64 hf
  have hsb := bounds_u32 hs
  exact ⟨⟨nm, at_, fr, ar, sz, su, me⟩, rfl, hn, hfb.1, hfb.2, by show 0 ≤ su; omega, by show su < 4294967296; omega⟩
theorem ixMems_lie {w : World} {X : List (List Value)} (h : ∀ x ∈ X, Lies w ixMemSh x) : ∃ ms : List LM, X = ms.map LM.cells ∧ ∀ m ∈ ms, m.Ok := by
  induction X with
  | nil => exact ⟨[], rfl, fun a ha => by cases ha⟩
  | cons x l ih =>
    obtain ⟨m, rfl, hm⟩ := ixMem_lies (h x (by simp))
    obtain ⟨ms, rfl, hms⟩ := ih (fun y hy => h y (by simp [hy]))
    exact ⟨m :: ms, rfl, fun a ha => by
      rcases List.mem_cons.1 ha with rfl | ha
      · exact hm
      · exact hms a ha⟩
/-- A slice of members that came in. -/
theorem ixMems_in {w : World} {cs : List Value} (h : Lies w (.slice ixMemSh) cs) : ∃ (A : Option Addr) (len cap : Nat) (ms : List LM), cs = [.slice A len cap] ∧ len ≤ maxLen ∧ len ≤ cap ∧ ms.length = len ∧ (∀ m ∈ ms, m.Ok) ∧ Cells w w.heap.size A (ms.map LM.cells).flatten := by
  obtain ⟨A, len, cap, X, rfl, h1, h2, h3, h4, h5⟩ := h
  obtain ⟨ms, rfl, h6⟩ := ixMems_lie (fun x hx => (h4 x hx).2)
  exact ⟨A, len, cap, ms, rfl, h1, h2, by simpa using h3, h6, h5⟩
end Go.Proofs.YtjoifgeljjgflaaDoor
