/- Layer 18: DescTakes walked. -/
import Derived.Test.YtaknladkodibaaaGreatDoorMgQ34935
import Derived.Test.YtaknladkodibaaaGreatDoorMgQ34922
import Derived.Test.YtaknladkodibaaaGreatDoorMgQ349SDcEn
namespace Go.Proofs.YtaknladkodibaaaGreatDoor
open Go.RowKit CrcP FieldP
attribute [local go_sem ↓] Go.wp_at_zero Go.wp_at_succ

theorem dcA_form (bs : List UInt8) (p : Int) : ∃ a b s : Int, dcA bs p = .agg #[.int .i64 a, .int .i64 b, .int .u32 s] := by
  unfold dcA
  split
  · exact ⟨_, _, _, rfl⟩
  · exact ⟨_, _, _, rfl⟩
end Go.Proofs.YtaknladkodibaaaGreatDoor
