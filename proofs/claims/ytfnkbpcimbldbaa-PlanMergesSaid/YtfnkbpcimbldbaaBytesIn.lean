/- From what a row's frame tells of a slice of bytes to the bytes themselves. -/
import Derived.Test.YtfnkbpcimbldbaaCells
import Derived.OpenShut
namespace Go.Proofs.Ytfnkbpcimbldbaa
open Go.RowKit

theorem addr_plain {w : World} {x : Addr} {v : Value} (h : w.cell? (x.add 0) = some v) : ∃ b o, x = ⟨b, o, none⟩ := by
  have hs := World.cell?_spot h
  obtain ⟨b, o, s⟩ := x
  refine ⟨b, o, ?_⟩
  have : s = none := by simpa [Addr.add] using hs
  rw [this]

theorem bytes_of_row {w : World} {a : Option Addr} {len cap : Nat} {zs : List Int}
    (h : (a = none ∧ len = 0 ∧ cap = 0 ∧ zs = []) ∨
      ∃ x, a = some x ∧ len ≤ cap ∧ cap ≤ maxLen ∧ zs.length = cap ∧ (∀ i, i < zs.length → w.cell? (x.add i) = some (.int .u8 (zs.getD i 0))) ∧ ∀ n ∈ zs, (Lit.int .u8 n).wf = true) :
    ∃ bs : List UInt8, bs.length = len ∧ len ≤ 9223372036854775807 ∧ Bytes w w.heap.size a bs := by
  rcases h with ⟨rfl, rfl, rfl, rfl⟩ | ⟨x, rfl, hl, hm, hz, hcell, hwz⟩
  · exact ⟨[], rfl, by omega, Cells.nil _ _ _⟩
  · unfold maxLen at hm
    refine ⟨(zs.take len).map fun n => UInt8.ofNat n.toNat, by simp; omega, by omega, fun hpos => ?_⟩
    rw [byteCells_length] at hpos
    have hlen : 0 < len := by
      simp at hpos
      omega
    obtain ⟨b, o, rfl⟩ := addr_plain (hcell 0 (by omega))
    refine ⟨b, o, rfl, World.block_lt_of_cell? w _ (hcell 0 (by omega)) |> fun h => by simpa [Addr.add] using h, fun j u hu => ?_⟩
    have hj : j < len := by
      have := (List.getElem?_eq_some_iff.1 hu).1
      simp [byteCells] at this
      omega
    have hjz : j < zs.length := by omega
    have hc := hcell j hjz
    have hadd : (⟨b, o, none⟩ : Addr).add j = ⟨b, o + j, none⟩ := by unfold Addr.add; split <;> simp_all
    rw [hadd] at hc
    rw [hc]
    have hg : zs[j]? = some zs[j] := List.getElem?_eq_getElem hjz
    have hb := hwz zs[j] (List.getElem_mem hjz)
    have hbd := bounds_u8 hb
    unfold byteCells at hu
    rw [List.getElem?_map, List.getElem?_map, List.getElem?_take_of_lt hj, hg] at hu
    simp only [Option.map_some, Option.some.injEq] at hu
    subst hu
    simp only [List.getD, hg, Option.getD_some]
    congr 2
    have : (zs[j]).toNat < 256 := by omega
    simp [Nat.mod_eq_of_lt this]
    omega
theorem ints_of_row {k : IntKind} {w : World} {a : Option Addr} {len cap : Nat} {zs : List Int}
    (h : (a = none ∧ len = 0 ∧ cap = 0 ∧ zs = []) ∨
      ∃ x, a = some x ∧ len ≤ cap ∧ cap ≤ maxLen ∧ zs.length = cap ∧ (∀ i, i < zs.length → w.cell? (x.add i) = some (.int k (zs.getD i 0))) ∧ ∀ n ∈ zs, (Lit.int k n).wf = true) :
    ∃ ns : List Int, ns.length = len ∧ len ≤ 9223372036854775807 ∧ Cells w w.heap.size a (ns.map (Value.int k)) ∧ ∀ n ∈ ns, (Lit.int k n).wf = true := by
  rcases h with ⟨rfl, rfl, rfl, rfl⟩ | ⟨x, rfl, hl, hm, hz, hcell, hwz⟩
  · exact ⟨[], rfl, by omega, Cells.nil _ _ _, fun _ h => by cases h⟩
  · unfold maxLen at hm
    refine ⟨zs.take len, by simp; omega, by omega, fun hpos => ?_, fun n hn => hwz n (List.mem_of_mem_take hn)⟩
    have hlen : 0 < len := by
      simp at hpos
      omega
    obtain ⟨b, o, rfl⟩ := addr_plain (hcell 0 (by omega))
    refine ⟨b, o, rfl, World.block_lt_of_cell? w _ (hcell 0 (by omega)) |> fun h => by simpa [Addr.add] using h, fun j u hu => ?_⟩
    have hj : j < len := by
      have := (List.getElem?_eq_some_iff.1 hu).1
      simp at this
      omega
    have hjz : j < zs.length := by omega
    have hc := hcell j hjz
    have hadd : (⟨b, o, none⟩ : Addr).add j = ⟨b, o + j, none⟩ := by unfold Addr.add; split <;> simp_all
    rw [hadd] at hc
    rw [hc]
    have hg : zs[j]? = some zs[j] := List.getElem?_eq_getElem hjz
    rw [List.getElem?_map, List.getElem?_take_of_lt hj, hg] at hu
    simp only [Option.map_some, Option.some.injEq] at hu
    subst hu
    simp only [List.getD, hg, Option.getD_some]
end Go.Proofs.Ytfnkbpcimbldbaa
