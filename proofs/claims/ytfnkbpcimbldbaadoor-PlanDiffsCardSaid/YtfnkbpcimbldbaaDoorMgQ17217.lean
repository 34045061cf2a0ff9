/- Layer 25: are files too many, too great; are files alike. -/
import Derived.Test.YtfnkbpcimbldbaaDoorMgQ172SFiP
import Derived.Test.YtfnkbpcimbldbaaDoorRows
import Derived.Test.YtfnkbpcimbldbaaDoorMgQ17206
import Derived.WalkMore
import Derived.Deep.Cut
import Derived.Deep.DeepCutAuto
import Derived.Deep.LoopGhost
import Derived.BigQuiet
import Derived.RegionTactic
import Derived.Test.YtfnkbpcimbldbaaDoorQuietF
namespace Go.Proofs.YtfnkbpcimbldbaaDoor
open Go.RowKit

theorem strF_any (w : World) (A : Option Addr) (l c B : Nat) (bs : List UInt8) (h : Bytes w B A bs) (hl : bs.length = l) : (convert 30 9 (.slice A l c)).run Tryd.prog w = .ok (.string ⟨bs.toArray⟩) w :=
  run_string_of (P := Tryd.prog) (w := w) (B := B) (A := A) (l := l) (bs := bs) (c := c) 30 9 5 Tryd.underlying30 Tryd.underlying5 Tryd.underlying9 h hl
/-- What counts of a file. -/
def Fi.key (f : Fi) : ByteArray × List UInt8 := (f.nm, f.data)
theorem ba_inj {a b : List UInt8} (h : (⟨a.toArray⟩ : ByteArray) = ⟨b.toArray⟩) : a = b := by
  have : (⟨a.toArray⟩ : ByteArray).data.toList = (⟨b.toArray⟩ : ByteArray).data.toList := by rw [h]
  simpa using this
end Go.Proofs.YtfnkbpcimbldbaaDoor
/- Layer 25: model.Same. -/
namespace Go.Proofs.YtfnkbpcimbldbaaDoor
open Go.RowKit

set_option maxHeartbeats 1000000 in
theorem equalB_any (A C : Option Addr) (l c l2 c2 B : Nat) (xs ys : List UInt8) (w : World) (hl : xs.length = l) (hl2 : ys.length = l2) (hb : Bytes w B A xs) (hb2 : Bytes w B C ys) :
    Calls Tryd.prog 41 #[.slice A l c, .slice C l2 c2] w fun e w' => e = .returned (.bool (decide (xs = ys))) ∧ w = w' := by
  have k1 := strF_any w A l c B xs hb hl
  have k2 := strF_any w C l2 c2 B ys hb2 hl2
  obtain ⟨sx, hsx⟩ : ∃ sx, (⟨xs.toArray⟩ : ByteArray) = sx := ⟨_, rfl⟩
  obtain ⟨sy, hsy⟩ : ∃ sy, (⟨ys.toArray⟩ : ByteArray) = sy := ⟨_, rfl⟩
  rw [hsx] at k1
  rw [hsy] at k2
  by_cases hd : xs = ys
  · have hs1 : sx = sy := by rw [← hsx, ← hsy, hd]
    have HD : Hid (decide (xs = ys) = true) := decide_eq_true hd
    subst hs1
    clear hsx hsy hd hb hb2 hl hl2
    go_enter Tryd.func41, Tryd.ntmps41
    go_wp2
    go_ret
    exact ⟨by rw [HD.out]; simp, rfl⟩
  · have hs3 : (sx.toList == sy.toList) = false := by rw [nmEq_dec]; exact decide_eq_false (fun e => hd (ba_inj (by rw [hsx, hsy]; exact e)))
    have hs2 : ¬ sx.toList = sy.toList := by rw [← beq_iff_eq, hs3]; decide
    have HD : Hid (decide (xs = ys) = false) := decide_eq_false hd
    clear hsx hsy hd hb hb2 hl hl2
    go_enter Tryd.func41, Tryd.ntmps41
    go_wp2
    go_ret
    exact ⟨by rw [HD.out]; simp, rfl⟩
end Go.Proofs.YtfnkbpcimbldbaaDoor
