/- Layer 9: how many bits a number has behind its code, of the reference. -/
import Derived.Test.YtkikgidmioofaaaGreatMgB04
import Derived.Test.YtkikgidmioofaaaGreatMgB01
import Derived.WalkKit
import Derived.Lib.Hide
namespace Go.Proofs.YtkikgidmioofaaaGreat
open Go.RowKit BitsP

theorem rextra_any (n : Nat) (w : World) : Calls Tryz.prog 86 #[.int .i64 (n : Int)] w fun e w' => e = .returned (.tuple #[.int .i64 ((spanP n).2 : Nat), .int .i64 ((spanP n).1 : Nat)]) ∧ w = w' := by
  by_cases h1 : n = 16
  · subst h1
    go_enter Tryz.func86, Tryz.ntmps86
    go_wp2
    go_ret2
    exact ⟨rfl, rfl⟩
  by_cases h2 : n = 17
  · subst h2
    go_enter Tryz.func86, Tryz.ntmps86
    go_wp2
    go_ret2
    exact ⟨rfl, rfl⟩
  by_cases h3 : n = 18
  · subst h3
    go_enter Tryz.func86, Tryz.ntmps86
    go_wp2
    go_ret2
    exact ⟨rfl, rfl⟩
  have HS : Hid (spanP n = (1, 0)) := by show _ = _; unfold spanP; rw [if_neg h1, if_neg h2, if_neg h3]
  have t1 : ((n : Int) == 16) = false := by simp; omega
  have t2 : ((n : Int) == 17) = false := by simp; omega
  have t3 : ((n : Int) == 18) = false := by simp; omega
  rw [HS.out]
  clear h1 h2 h3
  go_enter Tryz.func86, Tryz.ntmps86
  go_wp2
  go_ret2
  exact ⟨rfl, rfl⟩
end Go.Proofs.YtkikgidmioofaaaGreat
