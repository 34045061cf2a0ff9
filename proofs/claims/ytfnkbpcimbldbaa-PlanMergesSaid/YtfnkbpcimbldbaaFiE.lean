/- Layer 25: model.Same. -/
import Derived.Test.YtfnkbpcimbldbaaFiS
namespace Go.Proofs.Ytfnkbpcimbldbaa
open Go.RowKit

set_option maxHeartbeats 1000000 in
theorem equalB_any (A C : Option Addr) (l c l2 c2 B : Nat) (xs ys : List UInt8) (w : World) (hl : xs.length = l) (hl2 : ys.length = l2) (hb : Bytes w B A xs) (hb2 : Bytes w B C ys) :
    Calls Try.prog 23 #[.slice A l c, .slice C l2 c2] w fun e w' => e = .returned (.bool (decide (xs = ys))) ∧ w = w' := by
  have k1 := strF_any w A l c B xs hb hl
  have k2 := strF_any w C l2 c2 B ys hb2 hl2
  obtain ⟨sx, hsx⟩ : ∃ sx, (⟨xs.toArray⟩ : ByteArray) = sx := ⟨_, rfl⟩
  obtain ⟨sy, hsy⟩ : ∃ sy, (⟨ys.toArray⟩ : ByteArray) = sy := ⟨_, rfl⟩
  rw [hsx] at k1
  rw [hsy] at k2
  by_cases hd : xs = ys
  · have hs1 : sx = sy := by rw [← hsx, ← hsy, hd]
    have HD : Hid (decide (xs = ys) = true) := decide_eq_true hd
    subst hs1
    clear hsx hsy hd hb hb2 hl hl2
    go_enter Try.func23, Try.ntmps23
    go_wp2
    go_ret
    exact ⟨by rw [HD.out]; simp, rfl⟩
  · have hs3 : (sx.toList == sy.toList) = false := by rw [nmEq_dec]; exact decide_eq_false (fun e => hd (ba_inj (by rw [hsx, hsy]; exact e)))
    have hs2 : ¬ sx.toList = sy.toList := by rw [← beq_iff_eq, hs3]; decide
    have HD : Hid (decide (xs = ys) = false) := decide_eq_false hd
    clear hsx hsy hd hb hb2 hl hl2
    go_enter Try.func23, Try.ntmps23
    go_wp2
    go_ret
    exact ⟨by rw [HD.out]; simp, rfl⟩
def aggF (f : Fi) : Value := .agg #[.string f.nm, .slice f.ad f.data.length f.cp]
end Go.Proofs.Ytfnkbpcimbldbaa
