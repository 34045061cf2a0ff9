/- Layer 21: the reference's Right. -/
import Derived.Test.YtpokicngpapkcaaSlLives
namespace Go.Proofs.Ytpokicngpapkcaa
open Go.RowKit CrcP FieldP
attribute [local go_sem ↓] Go.wp_at_zero Go.wp_at_succ

set_option maxHeartbeats 1000000 in
theorem slRefRight_any (q e d : Int) (c : Bool) (w : World) :
    Calls Try.prog 9 #[.agg #[.int .i64 q, .int .i64 e, .int .i64 d, .bool c]] w fun x w' => x = .returned (.bool (slB q e d c)) ∧ w.alloc (.cells (slC q e d c) 23) = w' := by
  unfold slC
  by_cases h0 : q < 0
  · have HO : Hid (slB q e d c = false) := slB_no fun ⟨g0, g1, g2, g3, _⟩ => by omega
    have d0 : decide (q < 0) = true := decide_eq_true h0
    clear h0
    go_enter Try.func9, Try.ntmps9
    go_wp2
    go_ret
    exact ⟨by rw [HO.out]; rfl, rfl⟩
  have d0 : decide (q < 0) = false := decide_eq_false h0
  by_cases h1 : 2147483647 < q
  · have HO : Hid (slB q e d c = false) := slB_no fun ⟨g0, g1, g2, g3, _⟩ => by omega
    have d1 : decide (2147483647 < q) = true := decide_eq_true h1
    clear h1
    go_enter Try.func9, Try.ntmps9
    go_wp2
    go_ret
    exact ⟨by rw [HO.out]; rfl, rfl⟩
  have d1 : decide (2147483647 < q) = false := decide_eq_false h1
  by_cases h2 : e < 1024
  · have HO : Hid (slB q e d c = false) := slB_no fun ⟨g0, g1, g2, g3, _⟩ => by omega
    have d2 : decide (e < 1024) = true := decide_eq_true h2
    clear h2
    go_enter Try.func9, Try.ntmps9
    go_wp2
    go_ret
    exact ⟨by rw [HO.out]; rfl, rfl⟩
  have d2 : decide (e < 1024) = false := decide_eq_false h2
  by_cases h3 : 2097152 < e
  · have HO : Hid (slB q e d c = false) := slB_no fun ⟨g0, g1, g2, g3, _⟩ => by omega
    have d3 : decide (2097152 < e) = true := decide_eq_true h3
    clear h3
    go_enter Try.func9, Try.ntmps9
    go_wp2
    go_ret
    exact ⟨by rw [HO.out]; rfl, rfl⟩
  have d3 : decide (2097152 < e) = false := decide_eq_false h3
  cases c with
  | false =>
    have HO : Hid (slB q e d false = (d == 0)) := by
      show _ = _
      by_cases hd : d = 0
      · rw [slB_yes ⟨by omega, by omega, by omega, by omega, by simpa using hd⟩]; simp [hd]
      · rw [slB_no (fun ⟨_, _, _, _, g⟩ => hd (by simpa using g))]; simp [hd]
    clear h0 h1 h2 h3
    go_enter Try.func9, Try.ntmps9
    go_wp2
    go_ret
    exact ⟨by rw [HO.out]; rfl, rfl⟩
  | true =>
    by_cases h5 : 20 ≤ d
    case neg =>
      have HO : Hid (slB q e d true = false) := slB_no fun ⟨_, _, _, _, g⟩ => by simp at g; omega
      have d5 : decide (20 ≤ d) = false := decide_eq_false h5
      clear h0 h1 h2 h3 h5
      go_enter Try.func9, Try.ntmps9
      go_wp2
      go_ret
      exact ⟨by rw [HO.out]; rfl, rfl⟩
    have d5 : decide (20 ≤ d) = true := decide_eq_true h5
    by_cases h6 : d ≤ 16420
    case neg =>
      have HO : Hid (slB q e d true = false) := slB_no fun ⟨_, _, _, _, g⟩ => by simp at g; omega
      have d6 : decide (d ≤ 16420) = false := decide_eq_false h6
      clear h0 h1 h2 h3 h5 h6
      go_enter Try.func9, Try.ntmps9
      go_wp2
      go_ret
      exact ⟨by rw [HO.out]; rfl, rfl⟩
    have d6 : decide (d ≤ 16420) = true := decide_eq_true h6
    have hw : IntKind.i64.wrap (e + d) = e + d := IntWalk.i64_in _ (by omega)
    have HO : Hid (slB q e d true = decide (e + d ≤ 2097152)) := by
      show _ = _
      by_cases hd : e + d ≤ 2097152
      · rw [slB_yes ⟨by omega, by omega, by omega, by omega, by simp; omega⟩]; simp [hd]
      · rw [slB_no (fun ⟨_, _, _, _, g⟩ => by simp at g; omega)]; simp [hd]
    clear h0 h1 h2 h3 h5 h6
    go_enter Try.func9, Try.ntmps9
    go_wp2
    go_ret
    exact ⟨by rw [HO.out]; rfl, rfl⟩
end Go.Proofs.Ytpokicngpapkcaa
