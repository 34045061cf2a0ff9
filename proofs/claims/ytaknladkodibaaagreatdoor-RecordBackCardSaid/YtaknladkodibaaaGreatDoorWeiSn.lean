/- Layer 7: slices.SortFunc of no items. -/
import Derived.Test.YtaknladkodibaaaGreatDoorSymLen
import Derived.Test.YtaknladkodibaaaGreatDoorRows
import Derived.WalkKit
import Derived.WalkMore
import Derived.Lib.Hide
import Derived.Outline
import Derived.Deep.LoopGhost
namespace Go.Proofs.YtaknladkodibaaaGreatDoor
open Go.RowKit Go.Lib

set_option maxHeartbeats 1000000 in
theorem insNone_any (A : Option Addr) (c : Nat) (f : Value) (w : World) : Calls Tryz.prog 248 #[.slice A 0 c, .int .i64 0, .int .i64 0, f] w fun e w' => e = .returned (.tuple #[]) ∧ w = w' := by
  go_enter Tryz.func248, Tryz.ntmps248
  go_wp2
  go_loopg [8] 1 (fun gk i wr => i = .int .i64 1 ∧ wr = w)
  case atStart => exact ⟨rfl, rfl⟩
  case round =>
    obtain ⟨rfl, rfl⟩ := hrel
    go_wp2
    go_end0
    exact ⟨rfl, rfl⟩
set_option maxRecDepth 100000 in
set_option maxHeartbeats 1000000 in
theorem pdqNone_any (A : Option Addr) (c : Nat) (f : Value) (w : World) : Calls Tryz.prog 237 #[.slice A 0 c, .int .i64 0, .int .i64 0, .int .i64 0, f] w fun e w' => e = .returned (.tuple #[]) ∧ w = w' := by
  have H := Lib.hid (insNone_any A c f w)
  go_enter Tryz.func237, Tryz.ntmps237
  go_wp2
  go_loopg [1, 2] 1 (fun gk a b wr => a = .int .i64 0 ∧ b = .int .i64 0 ∧ wr = w)
  case atStart => exact ⟨rfl, rfl, rfl⟩
  case round =>
    obtain ⟨rfl, rfl, rfl⟩ := hrel
    go_wp2_with (go_at_call 248; refine H.out.mono ?_; rintro e w' ⟨rfl, rfl⟩)
    exact bodyPost_ret (results_none rfl _ _ _) rfl ⟨rfl, rfl⟩
theorem sortNone_any (A : Option Addr) (c : Nat) (f : Value) (w : World) : Calls Tryz.prog 213 #[.slice A 0 c, f] w fun e w' => e = .returned (.tuple #[]) ∧ w = w' := by
  have H := Lib.hid (pdqNone_any A c f w)
  have H2 : Hid (Calls Tryz.prog 196 #[.int .u64 0] w fun e w' => e = .returned (.int .i64 0) ∧ w = w') := (bits_Len 0 w (by omega) (by omega)).mono fun e w' ⟨h1, h2⟩ => ⟨h1.trans (congrArg Ending.returned (congrArg (Value.int IntKind.i64) (by rfl))), h2.symm⟩
  go_enter Tryz.func213, Tryz.ntmps213
  go_wp2_with (first
    | (go_at_call 196; refine H2.out.mono ?_; rintro e w' ⟨rfl, rfl⟩)
    | (go_at_call 237; refine H.out.mono ?_; rintro e w' ⟨rfl, rfl⟩))
  go_end0
  exact ⟨rfl, rfl⟩
end Go.Proofs.YtaknladkodibaaaGreatDoor
