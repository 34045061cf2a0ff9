/- cmp.Compare of texts. -/
import Derived.Test.YtaneifmbjkolaaaDoorNmP
import Derived.Test.YtaneifmbjkolaaaDoorRows
import Derived.Test.YtaneifmbjkolaaaDoorGrow
import Derived.Lib.Hide
import Derived.Laws.Cover1
import Derived.WalkMore
import Derived.Deep.Cut
import Derived.Deep.DeepCutAuto
import Derived.Deep.LoopGhost
namespace Go.Proofs.YtaneifmbjkolaaaDoor
open Go.RowKit

def cmpN (a b : ByteArray) : Int := if ltN a b then -1 else if a = b then 0 else 1
theorem cmpN_lt (a b : ByteArray) : decide (cmpN a b < 0) = ltN a b := by
  unfold cmpN
  cases h : ltN a b with
  | true => rfl
  | false => split <;> rename_i h1 <;> first | (cases h1; done) | (split <;> rfl)
theorem cmpN_eq (a b : ByteArray) : (cmpN a b == 0) = decide (a = b) := by
  unfold cmpN
  cases h : ltN a b with
  | true => rw [decide_eq_false (ltN_ne h)]; rfl
  | false =>
    by_cases e : a = b
    · simp [e]
    · simp [e]

set_option maxHeartbeats 400000 in
theorem nan_any (s : ByteArray) (w : World) : Calls Tryd.prog 47 #[.string s] w fun e w' => e = .returned (.bool false) ∧ w = w' := by
  go_enter Tryd.func47, Tryd.ntmps47
  go_wp2
  go_ret
  exact ⟨by simp, rfl⟩
set_option maxHeartbeats 400000 in
theorem cmpS_any (a b : ByteArray) (w : World) : Calls Tryd.prog 35 #[.string a, .string b] w fun e w' => e = .returned (.int .i64 (cmpN a b)) ∧ w = w' := by
  obtain ⟨t, ht⟩ : ∃ t, Op.bytesLess a.toList b.toList = t := ⟨_, rfl⟩
  obtain ⟨q, hq⟩ : ∃ q, (a.toList == b.toList) = q := ⟨_, rfl⟩
  have HR : Hid (cmpN a b = if t then -1 else if q then 0 else 1) := by
    show _ = _
    unfold cmpN ltN
    rw [ht, ← hq, nmEq_dec]
    simp
  have HN := Lib.hid (fun s W => nan_any s W)
  go_enter Tryd.func35, Tryd.ntmps35
  cases t with
  | true =>
    go_wp2_with (go_at_call 47; refine (HN.out _ _).mono ?_; rintro e w' ⟨rfl, rfl⟩)
    go_ret
    exact ⟨by rw [HR.out]; rfl, rfl⟩
  | false =>
    cases q with
    | true =>
      go_wp2_with (go_at_call 47; refine (HN.out _ _).mono ?_; rintro e w' ⟨rfl, rfl⟩)
      go_ret
      exact ⟨by rw [HR.out]; rfl, rfl⟩
    | false =>
      go_wp2_with (go_at_call 47; refine (HN.out _ _).mono ?_; rintro e w' ⟨rfl, rfl⟩)
      go_ret
      exact ⟨by rw [HR.out]; rfl, rfl⟩
end Go.Proofs.YtaneifmbjkolaaaDoor
