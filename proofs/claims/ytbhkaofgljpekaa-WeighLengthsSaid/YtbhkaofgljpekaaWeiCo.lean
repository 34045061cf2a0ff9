/- Layer 7: what lengths cost. -/
import Derived.Test.YtbhkaofgljpekaaWeiLv
import Derived.Test.YtbhkaofgljpekaaCa6
namespace Go.Proofs.Ytbhkaofgljpekaa
open Go.RowKit

def csum (ws ls : List Int) : Nat → Int
  | 0 => 0
  | k + 1 => csum ws ls k + ws.getD k 0 * ls.getD k 0
def costB (ws ls : List Int) : Bool := decide (ws.length = ls.length) && decide (ws.length ≤ 320) && ws.all wB && ls.all lenB
theorem costB_yes {ws ls : List Int} (h : costB ws ls = true) : ws.length = ls.length ∧ ws.length ≤ 320 ∧ (∀ x ∈ ws, wB x = true) ∧ ∀ x ∈ ls, lenB x = true := by
  simp only [costB, Bool.and_eq_true, decide_eq_true_eq, List.all_eq_true] at h
  exact ⟨h.1.1.1, h.1.1.2, h.1.2, h.2⟩
theorem mul_bd {x y : Int} (hx : 0 ≤ x ∧ x ≤ 1073741824) (hy : 0 ≤ y ∧ y ≤ 15) : 0 ≤ x * y ∧ x * y ≤ 16106127360 := by
  refine ⟨Int.mul_nonneg hx.1 hy.1, ?_⟩
  have h1 := Int.mul_le_mul hx.2 hy.2 hy.1 (by omega : (0 : Int) ≤ 1073741824)
  omega
theorem getD_good {zs : List Int} {p : Int → Bool} {k : Nat} (h : ∀ x ∈ zs, p x = true) (h0 : p 0 = true) : p (zs.getD k 0) = true := by
  rw [List.getD]
  cases hk : zs[k]? with
  | none => exact h0
  | some x => exact h x (List.mem_of_getElem? hk)
theorem csum_bd {ws ls : List Int} (hw : ∀ x ∈ ws, wB x = true) (hl : ∀ x ∈ ls, lenB x = true) : ∀ k, 0 ≤ csum ws ls k ∧ csum ws ls k ≤ (k : Int) * 16106127360
  | 0 => by simp [csum]
  | k + 1 => by
    have ih := csum_bd hw hl k
    have h1 := mul_bd (wB_yes (getD_good (k := k) hw rfl)) (lenB_yes (getD_good (k := k) hl rfl))
    rw [csum]
    push_cast
    omega
set_option maxHeartbeats 1000000 in
theorem cost_ok (A1 A2 : Option Addr) (l c1 c2 : Nat) (ws ls : List Int) (B : Nat) (w : World) (hw : ws.length = l) (hl : ls.length = l) (h1 : Cells w B A1 (zCs ws)) (h2 : Cells w B A2 (zCs ls)) (hok : costB ws ls = true) :
    Calls Try.prog 13 #[.slice A1 l c1, .slice A2 l c2] w fun e w' => e = .returned (.tuple #[.int .i64 (csum ws ls l), .bool true]) ∧ ∃ m, w' = w.drewN m := by
  have H1 := Lib.hid h1
  have H2 := Lib.hid h2
  have HW := Lib.hid hw
  have HL := Lib.hid hl
  obtain ⟨_, h320, hgw, hgl⟩ := costB_yes hok
  rw [hw] at h320
  have HGW := Lib.hid hgw
  have HGL := Lib.hid hgl
  have HBD := Lib.hid (csum_bd hgw hgl)
  have t1 : ((l : Int) != (l : Int)) = false := by simp
  have t2 : decide ((320 : Int) < (l : Int)) = false := by simp; omega
  clear h1 h2 hw hl hok hgw hgl
  go_enter Try.func13, Try.ntmps13
  go_wp2
  go_loopg [6, 20] l (fun gk v i wr => ∃ k m : Nat, k + gk = l ∧ i = .int .i64 k ∧ v = .int .i64 (csum ws ls k) ∧ wr = w.drewN m)
  case atStart => exact ⟨0, 0, by omega, rfl, rfl, rfl⟩
  case round =>
    obtain ⟨k, m, hk, rfl, rfl, rfl⟩ := hrel
    have hbd := HBD.out k
    by_cases h : k < l
    · obtain ⟨x, hx⟩ : ∃ x, ws[k]? = some x := ⟨_, List.getElem?_eq_getElem (by have := HW.out; omega)⟩
      obtain ⟨y, hy⟩ : ∃ y, ls[k]? = some y := ⟨_, List.getElem?_eq_getElem (by have := HL.out; omega)⟩
      obtain ⟨b, o, rfl, hbB, hc⟩ := H1.out (by rw [zCs_len, HW.out]; omega)
      obtain ⟨b2, o2, rfl, hbB2, hc2⟩ := H2.out (by rw [zCs_len, HL.out]; omega)
      have c0 : w.cell? ⟨b, o + k, none⟩ = some (.int .i64 x) := hc k _ (zCs_at hx)
      have c1 : w.cell? ⟨b2, o2 + k, none⟩ = some (.int .i64 y) := hc2 k _ (zCs_at hy)
      have hqx := HGW.out x (List.mem_of_getElem? hx)
      have hqy := HGL.out y (List.mem_of_getElem? hy)
      have HXB := Lib.hid (wB_yes hqx)
      have HYB := Lib.hid (lenB_yes hqy)
      have HRX := Lib.hid (fun W => rweight_any x W)
      have HRY := Lib.hid (fun W => rlen_any y W)
      rw [hqx] at HRX
      rw [hqy] at HRY
      have HS : Hid (csum ws ls (k + 1) = csum ws ls k + x * y) := by
        show _ = _
        rw [csum, List.getD, hx, List.getD, hy]
        rfl
      obtain ⟨s, hs⟩ : ∃ s, csum ws ls k = s := ⟨_, rfl⟩
      rw [hs] at HS hbd ⊢
      have hmb := mul_bd HXB.out HYB.out
      have hw1 : IntKind.i64.wrap (x * y) = x * y := IntWalk.i64_in _ (by omega)
      have hw2 : IntKind.i64.wrap (s + x * y) = s + x * y := IntWalk.i64_in _ (by omega)
      clear hx hy hc hc2 hqx hqy hs hmb hbd
      go_wp2_with (first
        | (go_at_call 18; refine (HRX.out _).mono ?_; rintro e w' ⟨rfl, rfl⟩)
        | (go_at_call 24; refine (HRY.out _).mono ?_; rintro e w' ⟨rfl, rfl⟩))
      go_quiet (fail)
      go_wp2
      go_roundg (gk - 1)
      case measure => omega
      case rel => exact ⟨k + 1, m + nq, by omega, by go_num, by rw [HS.out], rfl⟩
    · obtain rfl : k = l := by omega
      go_wp2
      go_ret2
      exact ⟨rfl, m, rfl⟩
set_option maxHeartbeats 1000000 in
theorem cost_ne (A1 A2 : Option Addr) (l1 l2 c1 c2 : Nat) (w : World) (h : l1 ≠ l2 ∨ 320 < l1) (hm1 : l1 ≤ 9223372036854775807) (hm2 : l2 ≤ 9223372036854775807) :
    Calls Try.prog 13 #[.slice A1 l1 c1, .slice A2 l2 c2] w fun e w' => e = .returned (.tuple #[.int .i64 0, .bool false]) ∧ w = w' := by
  by_cases hne : l1 = l2
  · subst hne
    have t1 : ((l1 : Int) != (l1 : Int)) = false := by simp
    have t2 : decide ((320 : Int) < (l1 : Int)) = true := by simp; omega
    clear h
    go_enter Try.func13, Try.ntmps13
    go_wp2
    go_ret2
    exact ⟨rfl, rfl⟩
  · have t1 : ((l1 : Int) != (l2 : Int)) = true := by simp; omega
    clear hne h
    go_enter Try.func13, Try.ntmps13
    go_wp2
    go_ret2
    exact ⟨rfl, rfl⟩
set_option maxHeartbeats 2000000 in
theorem cost_bad (A1 A2 : Option Addr) (l c1 c2 : Nat) (ws ls : List Int) (B : Nat) (w : World) (hw : ws.length = l) (hl : ls.length = l) (h320 : l ≤ 320) (h1 : Cells w B A1 (zCs ws)) (h2 : Cells w B A2 (zCs ls)) (hbad : ws.all wB = false ∨ ls.all lenB = false) :
    Calls Try.prog 13 #[.slice A1 l c1, .slice A2 l c2] w fun e w' => e = .returned (.tuple #[.int .i64 0, .bool false]) ∧ ∃ m, w' = w.drewN m := by
  have H1 := Lib.hid h1
  have H2 := Lib.hid h2
  have HW := Lib.hid hw
  have HL := Lib.hid hl
  have HBAD := Lib.hid hbad
  have t1 : ((l : Int) != (l : Int)) = false := by simp
  have t2 : decide ((320 : Int) < (l : Int)) = false := by simp; omega
  clear h1 h2 hw hl hbad
  go_enter Try.func13, Try.ntmps13
  go_wp2
  go_loopg [6, 20] l (fun gk v i wr => ∃ (k m : Nat) (s : Int), k + gk = l ∧ i = .int .i64 k ∧ v = .int .i64 s ∧ 0 ≤ s ∧ s ≤ (k : Int) * 16106127360 ∧ (∀ j x, j < k → ws[j]? = some x → wB x = true) ∧ (∀ j x, j < k → ls[j]? = some x → lenB x = true) ∧ wr = w.drewN m)
  case atStart => exact ⟨0, 0, 0, by omega, rfl, rfl, by omega, by omega, fun j _ h => absurd h (Nat.not_lt_zero j), fun j _ h => absurd h (Nat.not_lt_zero j), rfl⟩
  case round =>
    obtain ⟨k, m, s, hk, rfl, rfl, hs0, hs1, ha1, ha2, rfl⟩ := hrel
    have HA1 := Lib.hid ha1
    have HA2 := Lib.hid ha2
    clear ha1 ha2
    by_cases h : k < l
    · obtain ⟨x, hx⟩ : ∃ x, ws[k]? = some x := ⟨_, List.getElem?_eq_getElem (by have := HW.out; omega)⟩
      obtain ⟨y, hy⟩ : ∃ y, ls[k]? = some y := ⟨_, List.getElem?_eq_getElem (by have := HL.out; omega)⟩
      obtain ⟨b, o, rfl, hbB, hc⟩ := H1.out (by rw [zCs_len, HW.out]; omega)
      obtain ⟨b2, o2, rfl, hbB2, hc2⟩ := H2.out (by rw [zCs_len, HL.out]; omega)
      have c0 : w.cell? ⟨b, o + k, none⟩ = some (.int .i64 x) := hc k _ (zCs_at hx)
      have c1 : w.cell? ⟨b2, o2 + k, none⟩ = some (.int .i64 y) := hc2 k _ (zCs_at hy)
      have HRX := Lib.hid (fun W => rweight_any x W)
      have HRY := Lib.hid (fun W => rlen_any y W)
      have HX := Lib.hid hx
      have HY := Lib.hid hy
      obtain ⟨p, hp⟩ : ∃ p, wB x = p := ⟨_, rfl⟩
      obtain ⟨q, hq⟩ : ∃ q, lenB y = q := ⟨_, rfl⟩
      have HP := Lib.hid hp
      have HQ := Lib.hid hq
      rw [hp] at HRX
      rw [hq] at HRY
      clear hx hy hc hc2 hp hq
      cases p with
      | false =>
        clear hs0 hs1
        go_wp2_with (first
          | (go_at_call 18; refine (HRX.out _).mono ?_; rintro e w' ⟨rfl, rfl⟩)
          | (go_at_call 24; refine (HRY.out _).mono ?_; rintro e w' ⟨rfl, rfl⟩))
        go_ret2
        exact ⟨rfl, m, rfl⟩
      | true =>
        cases q with
        | false =>
          clear hs0 hs1
          go_wp2_with (first
            | (go_at_call 18; refine (HRX.out _).mono ?_; rintro e w' ⟨rfl, rfl⟩)
            | (go_at_call 24; refine (HRY.out _).mono ?_; rintro e w' ⟨rfl, rfl⟩))
          go_ret2
          exact ⟨rfl, m, rfl⟩
        | true =>
          have hmb := mul_bd (wB_yes HP.out) (lenB_yes HQ.out)
          have HMB := Lib.hid (show 0 ≤ s + x * y ∧ s + x * y ≤ ((k + 1 : Nat) : Int) * 16106127360 by push_cast; omega)
          have hw1 : IntKind.i64.wrap (x * y) = x * y := IntWalk.i64_in _ (by omega)
          have hw2 : IntKind.i64.wrap (s + x * y) = s + x * y := IntWalk.i64_in _ (by omega)
          clear hmb hs0 hs1
          go_wp2_with (first
            | (go_at_call 18; refine (HRX.out _).mono ?_; rintro e w' ⟨rfl, rfl⟩)
            | (go_at_call 24; refine (HRY.out _).mono ?_; rintro e w' ⟨rfl, rfl⟩))
          go_quiet (fail)
          go_wp2
          go_roundg (gk - 1)
          case measure => omega
          case rel =>
            refine ⟨k + 1, m + nq, s + x * y, by omega, by go_num, rfl, HMB.out.1, HMB.out.2, fun j z hj hz => ?_, fun j z hj hz => ?_, rfl⟩
            · by_cases e : j = k
              · subst e
                rw [HX.out] at hz
                injection hz with hz
                subst hz
                exact HP.out
              · exact HA1.out j z (by omega) hz
            · by_cases e : j = k
              · subst e
                rw [HY.out] at hz
                injection hz with hz
                subst hz
                exact HQ.out
              · exact HA2.out j z (by omega) hz
    · obtain rfl : k = l := by omega
      have h1 := all_good (zs := ws) (f := wB) (fun j x hj hx => HA1.out j x (by have := HW.out; omega) hx)
      have h2 := all_good (zs := ls) (f := lenB) (fun j x hj hx => HA2.out j x (by have := HL.out; omega) hx)
      rcases HBAD.out with h3 | h3
      · rw [h1] at h3; cases h3
      · rw [h2] at h3; cases h3
theorem cost_no (A1 A2 : Option Addr) (l1 l2 c1 c2 : Nat) (ws ls : List Int) (B : Nat) (w : World) (hw : ws.length = l1) (hl : ls.length = l2) (hm1 : l1 ≤ 9223372036854775807) (hm2 : l2 ≤ 9223372036854775807) (h1 : Cells w B A1 (zCs ws)) (h2 : Cells w B A2 (zCs ls)) (hno : costB ws ls = false) :
    Calls Try.prog 13 #[.slice A1 l1 c1, .slice A2 l2 c2] w fun e w' => e = .returned (.tuple #[.int .i64 0, .bool false]) ∧ ∃ m, w' = w.drewN m := by
  by_cases h : l1 ≠ l2 ∨ 320 < l1
  · exact (cost_ne A1 A2 l1 l2 c1 c2 w h hm1 hm2).mono fun _ _ ⟨he, hw⟩ => ⟨he, 0, hw.symm⟩
  · obtain rfl : l1 = l2 := by omega
    refine cost_bad A1 A2 l1 c1 c2 ws ls B w hw hl (by omega) h1 h2 ?_
    simp only [costB, hw, hl] at hno
    rw [decide_eq_true (by omega : l1 ≤ 320)] at hno
    cases h1 : ws.all wB with
    | false => exact .inl rfl
    | true =>
      cases h2 : ls.all lenB with
      | false => exact .inr rfl
      | true => rw [h1, h2] at hno; simp at hno
end Go.Proofs.Ytbhkaofgljpekaa
