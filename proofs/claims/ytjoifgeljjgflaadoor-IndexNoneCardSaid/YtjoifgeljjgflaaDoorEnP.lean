/- Layer 19: a directory's bytes. -/
import Derived.Test.YtjoifgeljjgflaaDoorEnA
import Derived.Test.YtjoifgeljjgflaaDoorKField
namespace Go.Proofs.YtjoifgeljjgflaaDoor
open Go.RowKit CrcP FieldP

/-- In how many bytes each number of a member stands. -/
def widE : Nat → Nat
  | 0 => 1
  | 1 => 1
  | _ => 4
/-- The first k numbers of a member, and all of its bytes. -/
def mbF (m : LM) : Nat → List UInt8
  | 0 => []
  | 1 => putN m.me.toNat 1
  | 2 => putN m.me.toNat 1 ++ putN m.nm.size 1
  | 3 => putN m.me.toNat 1 ++ putN m.nm.size 1 ++ putN m.at_.toNat 4
  | 4 => putN m.me.toNat 1 ++ putN m.nm.size 1 ++ putN m.at_.toNat 4 ++ putN m.sz.toNat 4
  | 5 => putN m.me.toNat 1 ++ putN m.nm.size 1 ++ putN m.at_.toNat 4 ++ putN m.sz.toNat 4 ++ putN m.ar.toNat 4
  | _ => putN m.me.toNat 1 ++ putN m.nm.size 1 ++ putN m.at_.toNat 4 ++ putN m.sz.toNat 4 ++ putN m.ar.toNat 4 ++ putN m.su.toNat 4
def mbLen : Nat → Nat
  | 0 => 0
  | 1 => 1
  | 2 => 2
  | 3 => 6
  | 4 => 10
  | 5 => 14
  | _ => 18
def mbB (m : LM) : List UInt8 := mbF m 6 ++ m.nm.data.toList
def dirB (ms : List LM) : List UInt8 := (ms.map mbB).flatten
theorem mbB_length (m : LM) : (mbB m).length = 18 + m.nm.size := by
  unfold mbB
  simp only [mbF, List.length_append, putN_length, Array.length_toList]
  rfl
theorem dirB_nil : dirB [] = [] := rfl
theorem dirB_take {ms : List LM} {k : Nat} {m : LM} (h : ms[k]? = some m) : dirB (ms.take (k + 1)) = dirB (ms.take k) ++ mbB m := by
  unfold dirB
  rw [List.take_add_one, h]
  simp
/-- How many bytes members take. -/
def rowsM (ms : List LM) : Nat := (ms.map fun m => 18 + m.nm.size).sum
theorem dirB_length (ms : List LM) : (dirB ms).length = rowsM ms := by
  unfold dirB rowsM
  rw [List.length_flatten, List.map_map]
  congr 1
  exact List.map_congr_left (fun m _ => mbB_length m)
theorem rowsM_take {ms : List LM} {k : Nat} {m : LM} (h : ms[k]? = some m) : rowsM (ms.take (k + 1)) = rowsM (ms.take k) + (18 + m.nm.size) := by
  unfold rowsM
  rw [List.take_add_one, h]
  simp
theorem rowsM_le {ms : List LM} {n : Nat} (h : ∀ m ∈ ms, m.nm.size ≤ n) : rowsM ms ≤ ms.length * (18 + n) := by
  induction ms with
  | nil => exact Nat.zero_le _
  | cons m l ih =>
    have := ih (fun m hm => h m (by simp [hm]))
    have h1 := h m (by simp)
    unfold rowsM at this ⊢
    rw [List.map_cons, List.sum_cons, List.length_cons, Nat.succ_mul]
    omega
theorem rowsM_cut (ms : List LM) (k : Nat) : rowsM (ms.take k) ≤ rowsM ms := by
  have h : rowsM ms = rowsM (ms.take k) + rowsM (ms.drop k) := by
    unfold rowsM
    rw [← List.sum_append, ← List.map_append, List.take_append_drop]
  omega
theorem memB_nums {m : LM} (h : m.B = true) : 1 ≤ m.nm.size ∧ m.nm.size ≤ 64 ∧ 0 ≤ m.me ∧ m.me ≤ 2 ∧ 1024 ≤ m.at_ ∧ m.at_ ≤ 1073741824 ∧ 0 ≤ m.ar ∧ m.ar ≤ 262144 ∧ 0 ≤ m.sz ∧ m.sz ≤ 65536 ∧ m.fr = m.at_ + (22 + (m.nm.size : Int)) := by
  unfold LM.B memB at h
  simp only [Bool.and_eq_true, beq_iff_eq] at h
  obtain ⟨⟨⟨⟨⟨h1, h2⟩, h3⟩, h4⟩, h5⟩, h6⟩ := h
  have a := rightB_size h1
  have b := inB_yes h2
  have c := inB_yes h3
  have d := inB_yes h5
  have e := inB_yes h6
  exact ⟨a.1, a.2, b.1, b.2, c.1, c.2, d.1, d.2, e.1, e.2, h4⟩
theorem goodTo_at {ms : List LM} {n k : Nat} {m : LM} (h : goodTo ms n) (hk : k < n) (hm : ms[k]? = some m) : m.B = true := by
  obtain ⟨m', h1, h2, _⟩ := h k hk
  rw [hm] at h1; injection h1 with h1; subst h1; exact h2
theorem dir_small {ms : List LM} (h : allB ms = true) : ms.length ≤ 200 ∧ ∀ m ∈ ms, m.nm.size ≤ 64 := by
  obtain ⟨h1, h2⟩ := allB_true.1 h
  refine ⟨h1, fun m hm => ?_⟩
  obtain ⟨k, hk⟩ := List.mem_iff_getElem?.1 hm
  exact (memB_nums (goodTo_at h2 (List.getElem?_eq_some_iff.1 hk).1 hk)).2.1

end Go.Proofs.YtjoifgeljjgflaaDoor
