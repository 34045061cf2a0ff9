/- The contract of layer 3's lives, and the walk of BitsCut. -/
import Derived.Test.YtaknladkodibaaaGreatMgQ21524
import Derived.Deep.RegionWith
namespace Go.Proofs.YtaknladkodibaaaGreat
open Go.RowKit BitsP
attribute [local go_sem ↓] Go.wp_at_zero Go.wp_at_succ

theorem WrS.keep {w w' : World} {g base : Nat} {S T : Nat → Prop} {L : List Bool} (h : WrS w g base S L) (hm : Mod T w w') (hd : ∀ k, S k → ¬ T k) : WrS w' g base S L := by
  obtain ⟨whole, R, hsp, A, c, hb, hown, rfl⟩ := h
  exact ⟨whole, R, hsp, A, c, hm.keep hb (hd g (.inl rfl)), own_keep hown hm (fun k hk => hd k (.inr hk)), rfl⟩
theorem WrS.lt {w : World} {g base : Nat} {S : Nat → Prop} {L : List Bool} (h : WrS w g base S L) : ∀ k, S k → k < w.heap.size := by
  obtain ⟨whole, R, hsp, A, c, hb, hown, rfl⟩ := h
  intro k hk
  rcases hk with rfl | hk
  · exact hb.lt
  · exact own_lt hown k hk
/-- The cells of a zero writer. -/
def zeroWr : Array Value := #[.slice none 0 0, .int .u64 0, .int .i64 0]
theorem ownS_nil (k : Nat) : ¬ ownS (.slice none 0 0) k := fun h => by cases h
theorem WrS.zero {w : World} {g : Nat} (base : Nat) (h : w.heap[g]? = some (.cells zeroWr 43 (0, 0))) : WrS w g base (oneB g) [] := by
  refine ⟨[], [], Split.nil, none, 0, h, World.ownsRow_nil _ _ _ _, ?_⟩
  funext k
  apply propext
  exact ⟨fun h => .inl h, fun h => h.elim id fun h => absurd h (ownS_nil k)⟩

theorem str_any (w : World) (A : Option Addr) (l c B : Nat) (bs : List UInt8) (h : Bytes w B A bs) (hl : bs.length = l) : (convert 23 9 (.slice A l c)).run Tryz.prog w = .ok (.string ⟨bs.toArray⟩) w :=
  run_string_of 23 9 5 Tryz.underlying23 Tryz.underlying5 Tryz.underlying9 h hl

end Go.Proofs.YtaknladkodibaaaGreat
