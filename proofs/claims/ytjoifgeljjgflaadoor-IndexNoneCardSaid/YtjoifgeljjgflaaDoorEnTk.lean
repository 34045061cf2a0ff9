/- Layer 19: a directory is taken. -/
import Derived.Test.YtjoifgeljjgflaaDoorEnRd
import Derived.Test.YtjoifgeljjgflaaDoorGrow
namespace Go.Proofs.YtjoifgeljjgflaaDoor
open Go.RowKit CrcP FieldP

theorem memElem : Elem Tryd.prog 22 32 (.agg #[.string ⟨#[]⟩, .int .i64 0, .int .i64 0, .int .i64 0, .int .i64 0, .int .u32 0, .int .i64 0]) 7 64 := Elem.of Tryd.underlying22 (by kernel_rfl) rfl (by omega)
/-- The state behind k members, and these. -/
def rdK (bs : List UInt8) (s : RSt) : Nat → RSt
  | 0 => s
  | k + 1 => (rdX bs (rdK bs s k)).2
def rdL (bs : List UInt8) (s : RSt) : Nat → List LM
  | 0 => []
  | k + 1 => rdL bs s k ++ [rdM bs (rdK bs s k)]
theorem rdL_length (bs : List UInt8) (s : RSt) : ∀ k, (rdL bs s k).length = k
  | 0 => rfl
  | k + 1 => by rw [rdL, List.length_append, rdL_length bs s k]; rfl
theorem rdK_le {bs : List UInt8} {s : RSt} (h : s.p ≤ bs.length) : ∀ k, (rdK bs s k).p ≤ bs.length
  | 0 => h
  | k + 1 => row_le (rdS_le (rdK_le h k) 6)
theorem rdM_ok {bs : List UInt8} {s : RSt} (h : bs.length ≤ 1000000000) : (rdM bs s).Ok := by
  have h0 := rdN_lt bs s 2
  have h5 := rdN_lt bs s 5
  have hl : (rdX bs s).1.length ≤ bs.length := row_len_le _ _ _
  refine ⟨?_, ?_, ?_, ?_, ?_⟩
  · show (rdX bs s).1.toArray.size ≤ maxLen
    rw [List.size_toArray]; unfold maxLen; omega
  · show _ ≤ ((rdN bs s 2 : Nat) : Int) + (22 + ((rdX bs s).1.length : Int)); omega
  · show ((rdN bs s 2 : Nat) : Int) + (22 + ((rdX bs s).1.length : Int)) ≤ _; omega
  · show (0 : Int) ≤ ((rdN bs s 5 : Nat) : Int); omega
  · show ((rdN bs s 5 : Nat) : Int) < _; omega
theorem rdL_ok {bs : List UInt8} {s : RSt} (h : bs.length ≤ 1000000000) : ∀ k, ∀ m ∈ rdL bs s k, m.Ok
  | 0, m, hm => by simp [rdL] at hm
  | k + 1, m, hm => by
    rw [rdL, List.mem_append] at hm
    rcases hm with hm | hm
    · exact rdL_ok h k m hm
    · obtain rfl : m = _ := by simpa using hm
      exact rdM_ok h
theorem mems_snoc (ms : List LM) (m : LM) : ((ms ++ [m]).map LM.cells).flatten = (ms.map LM.cells).flatten ++ m.arr.toList := by
  rw [List.map_append, List.flatten_append]
  simp [LM.arr, LM.cells]
theorem cells_of_ownE {w : World} {base : Nat} {e : TypeId} {size : Nat} {A : Option Addr} {n c : Nat} {xs : List Value} (h : w.ownsRow base e size (.slice A n c) n xs) : Cells w w.heap.size A xs := fun hp => by
  obtain ⟨hlen, hor⟩ := h
  rcases hor with ⟨h1, h2⟩ | ⟨g, cap, cur, hv, _, hg, _, _, hcells⟩
  · subst h2; rw [Nat.zero_mul] at hlen; omega
  · injection hv with ha _ _
    refine ⟨g, 0, ha, (Array.getElem?_eq_some_iff.1 hg).1, fun j u hj => ?_⟩
    rw [Nat.zero_add, cell_of_row w g j _ _ _ hg]
    obtain ⟨_, ht⟩ := hcells
    rw [← ht, List.getElem?_take] at hj
    split at hj
    · rw [← Array.getElem?_toList]; exact hj
    · cases hj
theorem own_ne7 {w : World} {base : Nat} {e t : TypeId} {size n g : Nat} {v : Value} {xs : List Value} {cs : Array Value} (h : w.ownsRow base e size v n xs) (hg : w.heap[g]? = some (.cells cs t (0, 0))) (hne : e ≠ t) : ∀ q, ownS v q → q ≠ g := fun q hq hqg => by
  subst hqg
  exact own_ne h hg hne hq
theorem Mod.of_grown' {g : Nat} {w w1 : World} (h : Only g w w1) : Mod (fun q => some g = some q) w w1 := ⟨h.os, h.tape, h.output, h.size, fun k hk hn => h.block k hk (fun e => hn e.symm)⟩
theorem below_dr {B : Nat} {w w' : World} (h : Below B w w') (n : Nat) : Below B w (w'.drewN n) := ⟨h.os, h.tape, h.output, h.size, h.block⟩
noncomputable def tkR (bs : List UInt8) (n : Nat) : Nat := if (rdK bs ⟨0, false⟩ n).bad = true then 2 else if (rdK bs ⟨0, false⟩ n).p < bs.length then 3 else if allB (rdL bs ⟨0, false⟩ n) = true then 0 else 3

end Go.Proofs.YtjoifgeljjgflaaDoor
