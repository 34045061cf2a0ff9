/- Layer 33: the words of kinds and of errors: the law. -/
import Derived.Test.YtkgkefifcpneiaaDoorReL
import Derived.Lib.SlBytesConst
namespace Go.Proofs.YtkgkefifcpneiaaDoor
open Go.RowKit

set_option maxRecDepth 100000 in
set_option maxHeartbeats 1000000 in
theorem lives33_any (w : World) : Calls Tryd.prog 13 #[] w fun e w' => e = .returned (.bool true) ∧ Below w.heap.size w w' := by
  have hcv := Lib.run_convert_bytes_const (P := Tryd.prog) w 31 5 #[.int .u8 97, .int .u8 98, .int .u8 99] 3 3 Tryd.underlying31 Tryd.underlying5
  go_enter Tryd.func13, Tryd.ntmps13
  go_wp2_with (go_at_call 16; refine (line33_get ⟨w.heap.size, 0, none⟩ 3 _).mono ?_; rintro e w1 ⟨rfl, hb1⟩; have HB1 : Hid (Below w.heap.size w w1) := (((Below.refl _ w).alloc (Nat.le_refl _) _).trans (hb1.mono (by simp))); clear hb1)
  go_ret
  exact ⟨rfl, HB1.out⟩
/-- Where a word was found of those gone through. -/
def Upto (ss : List ByteArray) (s : ByteArray) (n : Nat) (off m : Int) (b : Bool) : Prop := (b = false ∧ m = 0 ∧ ∀ j : Nat, j < n → ss[j]? ≠ some s) ∨ (b = true ∧ ∃ j : Nat, j < n ∧ ss[j]? = some s ∧ m = (j : Int) + off)
theorem Upto.none (ss : List ByteArray) (s : ByteArray) (off : Int) : Upto ss s 0 off 0 false := .inl ⟨rfl, rfl, fun _ hj => absurd hj (Nat.not_lt_zero _)⟩
theorem Upto.hit {ss : List ByteArray} {s x : ByteArray} {n : Nat} {off m m1 : Int} {b : Bool} (_h : Upto ss s n off m b) (hx : ss[n]? = some x) (he : x = s) (hm : m1 = (n : Int) + off) : Upto ss s (n + 1) off m1 true := .inr ⟨rfl, n, Nat.lt_succ_self n, by rw [hx, he], hm⟩
theorem Upto.miss {ss : List ByteArray} {s x : ByteArray} {n : Nat} {off m : Int} {b : Bool} (h : Upto ss s n off m b) (hx : ss[n]? = some x) (he : x ≠ s) : Upto ss s (n + 1) off m b := by
  rcases h with ⟨h1, h2, h3⟩ | ⟨h1, j, h2, h3, h4⟩
  · refine .inl ⟨h1, h2, fun j hj hj2 => ?_⟩
    by_cases hjn : j = n
    · subst hjn
      rw [hx] at hj2
      injection hj2 with hj2
      exact he hj2
    · exact h3 j (by omega) hj2
  · exact .inr ⟨h1, j, by omega, h3, h4⟩
theorem upto_placed {ss : List ByteArray} {s : ByteArray} {n : Nat} {off k m : Int} {b c : Bool} (hn : ss.Nodup) (hl : ss.length ≤ n) (h : Placed ss s k b) (u : Upto ss s n off m c) : b = c ∧ (if b then k + off else 0) = m := by
  rcases h with ⟨rfl, rfl, h3⟩ | ⟨rfl, j, rfl, h3⟩
  · rcases u with ⟨rfl, rfl, _⟩ | ⟨_, j, _, hj, _⟩
    · exact ⟨rfl, rfl⟩
    · exact absurd hj (h3 j)
  · have hj := (List.getElem?_eq_some_iff.1 h3).1
    rcases u with ⟨_, _, h4⟩ | ⟨rfl, i, _, hi, rfl⟩
    · exact absurd h3 (h4 j (by omega))
    · obtain rfl : j = i := (List.getElem?_inj hj hn).1 (h3.trans hi.symm)
      exact ⟨rfl, rfl⟩
theorem err_eq {ss : List ByteArray} {s : ByteArray} {k m : Int} {b : Bool} (h : Placed ss s k b) (he : (if b then k + 0 else 0) = m) : k = m := by
  rcases h with ⟨rfl, rfl, _⟩ | ⟨rfl, j, rfl, _⟩
  · exact he
  · rw [← he]; simp
theorem kindL_nodup : kindL.Nodup := by decide
theorem codeL_nodup : codeL.Nodup := by decide
set_option maxHeartbeats 4000000 in
theorem reportwords_any (k e : Int) (s : ByteArray) (w : World) (hk : -9223372036854775808 ≤ k ∧ k ≤ 9223372036854775807) :
    Calls Tryd.prog 3 #[.int .i64 k, .int .i64 e, .string s] w fun x w' => x = .returned (.bool true) ∧ Below w.heap.size w w' := by
  have HW1 := Lib.hid (fun W => word33_any k W hk)
  have HW2 := Lib.hid (fun W => refWord33_any k W)
  have HC1 := Lib.hid (fun W => code33_any e W)
  have HC2 := Lib.hid (fun W => refCode33_any e W)
  obtain ⟨p, hp⟩ : ∃ p, wordS k = p := ⟨_, rfl⟩
  obtain ⟨q, hq⟩ : ∃ q, codeS e = q := ⟨_, rfl⟩
  rw [hp] at HW1 HW2
  rw [hq] at HC1 HC2
  have hpp : (p.toList == p.toList) = true := by simp
  have hqq : (q.toList == q.toList) = true := by simp
  clear hp hq hk
  go_enter Tryd.func3, Tryd.ntmps3
  go_wp2_with ((first
    | (go_at_call 7; refine (HW1.out w).mono ?_; rintro x w1 ⟨rfl, hb1⟩; have HB1 := Lib.hid hb1; clear hb1)
    | (go_at_call 8; refine (HW2.out w1).mono ?_; rintro x w2 ⟨rfl, rfl⟩)
    | (go_at_call 9; refine (HC1.out w1).mono ?_; rintro x w3 ⟨rfl, hb3⟩; have HB3 := Lib.hid (HB1.out.trans (hb3.mono HB1.out.size)); clear hb3)
    | (go_at_call 10; refine (HC2.out w3).mono ?_; rintro x w4 ⟨rfl, hb4⟩; have HB4 := Lib.hid (HB3.out.trans (hb4.mono HB3.out.size)); clear hb4)))
  go_loopg [7, 8] 18 (fun gk x i wr => ∃ (n : Nat) (m : Int) (b : Bool), n + gk = 18 ∧ x = .int .i64 m ∧ i = .int .i64 ((n : Int) + 1) ∧ Upto kindL s n 1 m b ∧ wr = w4)
  case atStart => exact ⟨0, 0, false, rfl, rfl, rfl, Upto.none _ _ _, rfl⟩
  case round =>
    obtain ⟨n, m, b, hk, rfl, rfl, hu, rfl⟩ := hrel
    have HU := Lib.hid hu
    clear hu
    by_cases h : n < 18
    · obtain ⟨x, hx⟩ : ∃ x, kindL[n]? = some x := ⟨_, List.getElem?_eq_getElem (by show n < 18; exact h)⟩
      have hws : wordS ((n : Int) + 1) = x := by
        unfold wordS
        rw [Int.add_sub_cancel]
        exact pickS_in _ hx
      have HRW := Lib.hid (fun W => refWord33_any ((n : Int) + 1) W)
      rw [hws] at HRW
      have HX := Lib.hid hx
      have hd : decide ((n : Int) + 1 < 19) = true := by simp; omega
      have hw1 : IntKind.i64.wrap ((n : Int) + 1 + 1) = (n : Int) + 1 + 1 := IntWalk.i64_in _ (by omega)
      clear hx hws
      by_cases hn : x = s
      · have hn2 : x.toList = s.toList := by rw [hn]
        have hn3 : (x.toList == s.toList) = true := by rw [hn]; simp
        have HN := Lib.hid hn
        clear hn
        go_wp2_with (go_at_call 8; refine (HRW.out _).mono ?_; rintro e2 w5 ⟨rfl, rfl⟩)
        go_roundg (gk - 1)
        case measure => omega
        case rel => exact ⟨n + 1, (n : Int) + 1, true, by omega, rfl, by go_num, HU.out.hit HX.out HN.out rfl, rfl⟩
      · have hn3 : (x.toList == s.toList) = false := by rw [nmEq_dec]; exact decide_eq_false hn
        have hn2 : ¬ x.toList = s.toList := by rw [← beq_iff_eq, hn3]; decide
        have HNE : Hid (x ≠ s) := hn
        clear hn
        go_wp2_with (go_at_call 8; refine (HRW.out _).mono ?_; rintro e2 w5 ⟨rfl, rfl⟩)
        go_roundg (gk - 1)
        case measure => omega
        case rel => exact ⟨n + 1, m, b, by omega, rfl, by go_num, HU.out.miss HX.out HNE.out, rfl⟩
    · obtain rfl : n = 18 := by omega
      have HU1 := HU
      clear HU
      go_wp2
      go_loopg [9, 10, 11] 17 (fun gk x y i wr => ∃ (n : Nat) (m : Int) (b : Bool), n + gk = 17 ∧ x = .int .i64 m ∧ y = .bool b ∧ i = .int .i64 (n : Int) ∧ Upto codeL s n 0 m b ∧ Below w.heap.size w wr)
      case atStart => exact ⟨0, 0, false, rfl, rfl, rfl, rfl, Upto.none _ _ _, HB4.out⟩
      case round =>
        obtain ⟨n, m2, b2, hk2, rfl, rfl, rfl, hu, hbr⟩ := hrel
        have HU := Lib.hid hu
        have HBR := Lib.hid hbr
        clear hu hbr
        by_cases h2 : n < 17
        · obtain ⟨x, hx⟩ : ∃ x, codeL[n]? = some x := ⟨_, List.getElem?_eq_getElem (by show n < 17; exact h2)⟩
          have hws : codeS (n : Int) = x := pickS_in _ hx
          have HRW := Lib.hid (fun W => refCode33_any (n : Int) W)
          rw [hws] at HRW
          have HX := Lib.hid hx
          have hd : decide ((n : Int) < 17) = true := by simp; omega
          have hw1 : IntKind.i64.wrap ((n : Int) + 1) = (n : Int) + 1 := IntWalk.i64_in _ (by omega)
          clear hx hws
          by_cases hn : x = s
          · have hn2 : x.toList = s.toList := by rw [hn]
            have hn3 : (x.toList == s.toList) = true := by rw [hn]; simp
            have HN := Lib.hid hn
            clear hn
            go_wp2_with (go_at_call 10; refine (HRW.out _).mono ?_; rintro e2 w5 ⟨rfl, hb5⟩; have HB5 := Lib.hid (HBR.out.trans (hb5.mono HBR.out.size)); clear hb5)
            go_roundg (gk - 1)
            case measure => omega
            case rel => exact ⟨n + 1, (n : Int), true, by omega, rfl, rfl, by go_num, HU.out.hit HX.out HN.out (by omega), HB5.out⟩
          · have hn3 : (x.toList == s.toList) = false := by rw [nmEq_dec]; exact decide_eq_false hn
            have hn2 : ¬ x.toList = s.toList := by rw [← beq_iff_eq, hn3]; decide
            have HNE : Hid (x ≠ s) := hn
            clear hn
            go_wp2_with (go_at_call 10; refine (HRW.out _).mono ?_; rintro e2 w5 ⟨rfl, hb5⟩; have HB5 := Lib.hid (HBR.out.trans (hb5.mono HBR.out.size)); clear hb5)
            go_roundg (gk - 1)
            case measure => omega
            case rel => exact ⟨n + 1, m2, b2, by omega, rfl, rfl, by go_num, HU.out.miss HX.out HNE.out, HB5.out⟩
        · obtain rfl : n = 17 := by omega
          have hbb : (b2 == b2) = true := by simp
          go_wp2_with ((first
            | (go_at_call 11; refine (error33_any s _).mono ?_; rintro x w6 ⟨k6, b6, rfl, hp6, hb6⟩; obtain ⟨h61, h62⟩ := upto_placed codeL_nodup (Nat.le_refl 17) hp6 HU.out; subst h61; have h63 : k6 = m2 := err_eq hp6 h62; subst h63; have HB6 := Lib.hid (HBR.out.trans (hb6.mono HBR.out.size)); clear hb6 hp6 h62)
            | (go_at_call 12; refine (kind33_any s _).mono ?_; rintro x w7 ⟨k7, b7, rfl, hp7, hb7⟩; rw [(upto_placed kindL_nodup (Nat.le_refl 18) hp7 HU1.out).2]; have HB7 := Lib.hid (HB6.out.trans (hb7.mono HB6.out.size)); clear hb7 hp7)
            | (go_at_call 13; refine (lives33_any _).mono ?_; rintro x w8 ⟨rfl, hb8⟩; have HB8 := Lib.hid (HB7.out.trans (hb8.mono HB7.out.size)); clear hb8)))
          go_ret
          exact ⟨rfl, HB8.out⟩
end Go.Proofs.YtkgkefifcpneiaaDoor
