/- Layer 8: the reference's bits of a code. -/
import Derived.Test.YtgbbdgoleiolhaaCrPl
import Derived.Test.YtgbbdgoleiolhaaMgBlockWeights23
import Derived.Deep.RegionWith
namespace Go.Proofs.Ytgbbdgoleiolhaa
open Go.RowKit BitsP

theorem codeB_succ (v i : Nat) : codeB v (i + 1) = decide (v / p2 i % 2 = 1) :: codeB v i := by
  unfold codeB
  rw [bitsOf_snoc, List.reverse_append]
  rfl
end Go.Proofs.Ytgbbdgoleiolhaa
/- The contract of layer 3's lives, and the walk of BitsCut. -/
namespace Go.Proofs.Ytgbbdgoleiolhaa
open Go.RowKit BitsP
attribute [local go_sem ↓] Go.wp_at_zero Go.wp_at_succ

theorem WrS.keep {w w' : World} {g base : Nat} {S T : Nat → Prop} {L : List Bool} (h : WrS w g base S L) (hm : Mod T w w') (hd : ∀ k, S k → ¬ T k) : WrS w' g base S L := by
  obtain ⟨whole, R, hsp, A, c, hb, hown, rfl⟩ := h
  exact ⟨whole, R, hsp, A, c, hm.keep hb (hd g (.inl rfl)), own_keep hown hm (fun k hk => hd k (.inr hk)), rfl⟩
theorem WrS.lt {w : World} {g base : Nat} {S : Nat → Prop} {L : List Bool} (h : WrS w g base S L) : ∀ k, S k → k < w.heap.size := by
  obtain ⟨whole, R, hsp, A, c, hb, hown, rfl⟩ := h
  intro k hk
  rcases hk with rfl | hk
  · exact hb.lt
  · exact own_lt hown k hk
/-- The cells of a zero writer. -/
def zeroWr : Array Value := #[.slice none 0 0, .int .u64 0, .int .i64 0]
theorem ownS_nil (k : Nat) : ¬ ownS (.slice none 0 0) k := fun h => by cases h
theorem WrS.zero {w : World} {g : Nat} (base : Nat) (h : w.heap[g]? = some (.cells zeroWr 34 (0, 0))) : WrS w g base (oneB g) [] := by
  refine ⟨[], [], Split.nil, none, 0, h, World.ownsRow_nil _ _ _ _, ?_⟩
  funext k
  apply propext
  exact ⟨fun h => .inl h, fun h => h.elim id fun h => absurd h (ownS_nil k)⟩

theorem str_any (w : World) (A : Option Addr) (l c B : Nat) (bs : List UInt8) (h : Bytes w B A bs) (hl : bs.length = l) : (convert 31 9 (.slice A l c)).run Try.prog w = .ok (.string ⟨bs.toArray⟩) w :=
  run_string_of 31 9 5 Try.underlying31 Try.underlying5 Try.underlying9 h hl

theorem lives_bits : pack (([] ++ bitsOf (5 : Int).toNat (cnt 3)) ++ bitsOf (1 : Int).toNat (cnt 1)) = [13] := by decide
theorem lives_len : (([] ++ bitsOf (5 : Int).toNat (cnt 3)) ++ bitsOf (1 : Int).toNat (cnt 1)).length = 4 := by decide

/-- Calls that make memory alone, one behind the other. -/
theorem close_four {B : Nat} {W w w4 w5 w7 : World} {nd : Nat} (h : Below B W w) (h4 : Below w.drew.heap.size w.drew w4) (h5 : Below w4.heap.size w4 w5) (h7 : Below (w5.drewN nd).heap.size (w5.drewN nd) w7) (hB : B ≤ w.heap.size) : Below B W w7 := by
  have a4 : Below B W w4 := h.drew.trans (h4.mono hB)
  have b4 : B ≤ w4.heap.size := Nat.le_trans hB h4.size
  have a5 : Below B W w5 := a4.trans (h5.mono b4)
  have b5 : B ≤ w5.heap.size := Nat.le_trans b4 h5.size
  have a6 : Below B W (w5.drewN nd) := ⟨a5.os, a5.tape, a5.output, a5.size, a5.block⟩
  exact a6.trans (h7.mono b5)

end Go.Proofs.Ytgbbdgoleiolhaa
