/- The contract of Same: are two slices of bytes the same. -/
import Derived.Test.YtacfigopfgmdfaaCrcLeaf
namespace Go.Proofs.Ytacfigopfgmdfaa
open Go.RowKit CrcP

set_option maxRecDepth 100000 in
set_option maxHeartbeats 400000 in
theorem same_any (A₁ : Option Addr) (l₁ c₁ : Nat) (bs₁ : List UInt8) (A₂ : Option Addr) (l₂ c₂ : Nat) (bs₂ : List UInt8) (B₁ B₂ : Nat) (w : World) (hl₁ : bs₁.length = l₁) (hl₂ : bs₂.length = l₂)
    (hb₁ : Bytes w B₁ A₁ bs₁) (hb₂ : Bytes w B₂ A₂ bs₂) :
    Calls Try.prog 17 #[.slice A₁ l₁ c₁, .slice A₂ l₂ c₂] w fun e w' => e = .returned (.bool (decide (bs₁ = bs₂))) ∧ w = w' := by
  have k1 := run_string_of (P := Try.prog) (c := c₁) 22 9 5 Try.underlying22 Try.underlying5 Try.underlying9 hb₁ hl₁
  have k2 := run_string_of (P := Try.prog) (c := c₂) 22 9 5 Try.underlying22 Try.underlying5 Try.underlying9 hb₂ hl₂
  have HS : Hid (∃ s₁ s₂ : ByteArray, s₁ = ⟨bs₁.toArray⟩ ∧ s₂ = ⟨bs₂.toArray⟩) := ⟨_, _, rfl, rfl⟩
  obtain ⟨s₁, s₂, h1, h2⟩ := HS.out
  rw [← h1] at k1
  rw [← h2] at k2
  have H1 := Lib.hid h1
  have H2 := Lib.hid h2
  clear h1 h2 hb₁ hb₂ hl₁ hl₂ HS
  go_enter Try.func17, Try.ntmps17
  go_wp2

  go_ret
  refine ⟨?_, rfl⟩
  show Ending.returned (.bool (s₁.toList == s₂.toList)) = _
  rw [H1.out, H2.out, ByteArray.toList_eq, ByteArray.toList_eq]
  have e : (bs₁ == bs₂) = decide (bs₁ = bs₂) := by
    rw [Bool.eq_iff_iff]
    simp
  rw [← e]
end Go.Proofs.Ytacfigopfgmdfaa
