/- Layer 33: ReportCounts. -/
import Derived.Test.YtkgkefifcpneiaaDoorReCp
import Derived.Test.YtkgkefifcpneiaaDoorReSL
import Derived.Test.YtkgkefifcpneiaaDoorReTab
namespace Go.Proofs.YtkgkefifcpneiaaDoor
open Go.RowKit

set_option maxRecDepth 100000 in
set_option maxHeartbeats 4000000 in
theorem reportcounts_any (A : Option Addr) (l c : Nat) (j k0 : Int) (ps : List Pr) (w : World) (hl : ps.length = l) (hc : ∀ p ∈ ps, p.one ∧ p.full ∧ -9223372036854775808 ≤ p.kind ∧ p.kind ≤ 9223372036854775807) (hb : Cells w w.heap.size A (prCells ps)) (ht : Tab10 w)
    (hj : -9223372036854775808 ≤ j ∧ j ≤ 9223372036854775807) (hk : -9223372036854775808 ≤ k0 ∧ k0 ≤ 9223372036854775807) :
    Calls Tryd.prog 6 #[.slice A l c, .int .i64 j, .int .i64 k0] w fun x w' => x = .returned (.bool true) ∧ Below w.heap.size w w' := by
  have HL := Lib.hid hl
  have HCM := Lib.hid hc
  have HP := Lib.hid hb
  have HT := Lib.hid ht
  have HJ := Lib.hid hj
  have HK0 := Lib.hid hk
  clear hb hc ht hj hk
  go_enter Tryd.func6, Tryd.ntmps6
  go_upto_region 3 with (first
    | (go_at_call 14; refine (great33_any A l c ps w.heap.size w hl HP.out).mono ?_; rintro x w1 ⟨b, rfl, rfl, hg⟩; have HG := Lib.hid hg; clear hg)
    | (go_at_call 13; refine (lives33_any _).mono ?_; rintro x w8 ⟨rfl, hb8⟩; have HB8 := Lib.hid hb8; clear hb8))
  · go_ret
    exact ⟨rfl, HB8.out⟩
  have HGG := Lib.hid (HG.out (by simp_all only))
  clear HG
  go_cut [34] from 19 to 134 (fun c wx => c = .bool false ∧ Below w.heap.size w wx)
  case first =>
    by_cases h1 : 1 ≤ j
    · by_cases h2 : j ≤ 18
      · have hjj : (j != j) = false := by simp
        go_wp2_with ((first
          | (go_at_call 7; refine (word33_any j w HJ.out).mono ?_; rintro x w2 ⟨rfl, hb2⟩; have HB2 := Lib.hid hb2; clear hb2)
          | (go_at_call 12; refine (kind33_any _ _).mono ?_; rintro x w3 ⟨k3, b3, rfl, hp3, hb3⟩; rw [kind_word h1 h2 hp3]; have HB3 := Lib.hid (HB2.out.trans (hb3.mono HB2.out.size)); clear hb3 hp3)))
        go_meet
        case rel => exact ⟨rfl, HB3.out⟩
      · go_wp2_with fail
        go_meet
        case rel => exact ⟨rfl, Below.refl _ _⟩
    · go_wp2_with fail
      go_meet
      case rel => exact ⟨rfl, Below.refl _ _⟩
  case rest =>
  obtain ⟨rfl, hb1⟩ := hcut
  have HB1 := Lib.hid hb1
  clear hb1
  go_upto_region 5 with fail
  go_cut [50] from 19 to 134 (fun c wx => c = .bool false ∧ Below w.heap.size w wx)
  case first =>
    by_cases hjk : j = k0
    · subst hjk
      have hjj : (j != j) = false := by simp
      go_wp2_with fail
      go_meet
      case rel => exact ⟨rfl, HB1.out⟩
    · have hne : (j != k0) = true := by simp [hjk]
      have HWA := Lib.hid (fun W => word33_any j W HJ.out)
      have HWB := Lib.hid (fun W => word33_any k0 W HK0.out)
      have HWC := Lib.hid (fun W => word33_any 0 W (by omega))
      have HAP := Lib.hid (word_apart hjk)
      generalize wordS j = x at *
      generalize wordS k0 = y at *
      generalize wordS 0 = z at *
      by_cases hxy : x = y
      · have hxz : x = z := HAP.out hxy
        have e1 : (x.toList == y.toList) = true := by rw [hxy]; simp
        have e2 : (x.toList == z.toList) = true := by rw [hxz]; simp
        have e1' : x.toList = y.toList := by rw [hxy]
        have e2' : x.toList = z.toList := by rw [hxz]
        have e3 : (x.toList != z.toList) = false := by rw [hxz]; simp
        have hyz : (y.toList == z.toList) = true := by rw [← hxy, hxz]; simp
        clear hxy hxz HAP
        go_wp2_with ((first
          | (go_at_call 7; refine (HWA.out wc).mono ?_; rintro e W2 ⟨rfl, hb2⟩; have HB2 := Lib.hid (HB1.out.trans (hb2.mono HB1.out.size)); clear hb2)
          | (go_at_call 7; refine (HWB.out W2).mono ?_; rintro e W3 ⟨rfl, hb3⟩; have HB3 := Lib.hid (HB2.out.trans (hb3.mono HB2.out.size)); clear hb3)
          | (go_at_call 7; refine (HWA.out W3).mono ?_; rintro e W4 ⟨rfl, hb4⟩; have HB4 := Lib.hid (HB3.out.trans (hb4.mono HB3.out.size)); clear hb4)
          | (go_at_call 7; refine (HWC.out W4).mono ?_; rintro e W5 ⟨rfl, hb5⟩; have HB5 := Lib.hid (HB4.out.trans (hb5.mono HB4.out.size)); clear hb5)))
        go_meet
        case rel => exact ⟨rfl, HB5.out⟩
      · have e1 : (x.toList == y.toList) = false := by rw [nmEq_dec]; exact decide_eq_false hxy
        have e1' : ¬ x.toList = y.toList := by rw [← beq_iff_eq, e1]; decide
        clear hxy HAP
        go_wp2_with ((first
          | (go_at_call 7; refine (HWA.out wc).mono ?_; rintro e W2 ⟨rfl, hb2⟩; have HB2 := Lib.hid (HB1.out.trans (hb2.mono HB1.out.size)); clear hb2)
          | (go_at_call 7; refine (HWB.out W2).mono ?_; rintro e W3 ⟨rfl, hb3⟩; have HB3 := Lib.hid (HB2.out.trans (hb3.mono HB2.out.size)); clear hb3)))
        go_meet
        case rel => exact ⟨rfl, HB3.out⟩
  case rest =>
  obtain ⟨rfl, hb1⟩ := hcut
  have HB1 := Lib.hid hb1
  clear hb1
  go_upto_region 7 with fail
  go_cut [56] from 19 to 134 (fun c wx => c = .bool (decide (0 ≤ j) && decide (j ≤ 16)) ∧ wx = wc)
  case first =>
    by_cases h1 : 0 ≤ j
    · have hd1 : decide (0 ≤ j) = true := decide_eq_true h1
      by_cases h2 : j ≤ 16
      · have hd2 : decide (j ≤ 16) = true := decide_eq_true h2
        go_wp2_with fail
        go_meet
        case rel => exact ⟨by rw [hd1, hd2]; rfl, rfl⟩
      · have hd2 : decide (j ≤ 16) = false := decide_eq_false h2
        go_wp2_with fail
        go_meet
        case rel => exact ⟨by rw [hd1, hd2]; rfl, rfl⟩
    · have hd1 : decide (0 ≤ j) = false := decide_eq_false h1
      go_wp2_with fail
      go_meet
      case rel => exact ⟨by rw [hd1]; rfl, rfl⟩
  case rest =>
  obtain ⟨rfl, rfl⟩ := hcut
  go_upto_if 56 with fail
  go_cut [56] from 19 to 134 (fun _ wx => Below w.heap.size w wx)
  case first =>
    by_cases h12 : 0 ≤ j ∧ j ≤ 16
    · have hd : (decide (0 ≤ j) && decide (j ≤ 16)) = true := by simpa using h12
      have HEC := Lib.hid (fun k b => err_code h12.1 h12.2 (k := k) (b := b))
      have hjj : (j != j) = false := by simp
      have HCD := Lib.hid (fun W => code33_any j W)
      rw [hd]
      clear h12 hd
      go_wp2_with ((first
        | (go_at_call 9; refine (HCD.out wc).mono ?_; rintro e W2 ⟨rfl, hb2⟩; have HB2 := Lib.hid (HB1.out.trans (hb2.mono HB1.out.size)); clear hb2)
        | (go_at_call 11; refine (error33_any _ W2).mono ?_; rintro e W3 ⟨k3, b3, rfl, hp3, hb3⟩; obtain ⟨rfl, rfl⟩ := HEC.out k3 b3 hp3; have HB3 := Lib.hid (HB2.out.trans (hb3.mono HB2.out.size)); clear hb3 hp3)))
      go_meet
      case rel => exact HB3.out
    · have hd : (decide (0 ≤ j) && decide (j ≤ 16)) = false := by simpa using h12
      rw [hd]
      go_wp2_with fail
      go_meet
      case rel => exact HB1.out
  case rest =>
  have HB2 := Lib.hid hcut
  clear hcut HB1
  have HFI : Hid (∀ p ∈ ps, p.fine) := fun p hp => ⟨(HCM.out p hp).1, (HCM.out p hp).2.1, HGG.out.2 p hp, (HCM.out p hp).2.2⟩
  have HPW : Hid (Cells wc wc.heap.size A (prCells ps)) := (HP.out.below HB2.out (Nat.le_refl _)).more HB2.out.size
  have hls : l ≤ 100 := by have := HGG.out.1; have := HL.out; omega
  go_wp2_with ((first
    | (go_at_call 15; refine (parts33_any A l c ps wc.heap.size wc HL.out hls (fun p hp => (HCM.out p hp).1) HPW.out (Nat.le_refl _)).mono ?_; rintro x W3 ⟨v, u, rfl, ho1, ho2, hd, hb3⟩; obtain ⟨A1, c1, rfl⟩ := ownK_form33 ho1; obtain ⟨A2, c2, rfl⟩ := ownK_form33 ho2; have HC1 := Lib.hid (cells_own33 ho1); have HC2 := Lib.hid (cells_own33 ho2); have HB3 := Lib.hid (HB2.out.trans (hb3.mono HB2.out.size)); clear ho1 ho2 hd hb3)
    | (go_at_call 19; refine (sum33_any A1 A2 l c1 c2 ps W3.heap.size W3 HL.out hls (fun p hp => (HCM.out p hp).1) HC1.out HC2.out (Nat.le_refl _)).mono ?_; rintro x W4 ⟨rfl, hb4⟩; have HB4 := Lib.hid hb4; clear hb4)
    | (refine wpList_store_row rfl 55 (.tmp 11) (.tmp 79) rfl W4.heap.size rfl 55 (smCells 0 smZ).toArray (smCells l (sumS ps)).toArray rfl (heap_alloc_new W4 _) (by rw [sm_size (sumS_ok' HL.out)]; exact smInfo) (by rw [sm_size (sumS_ok' HL.out)]; rfl) (sm_one _ _) (fun W5 hW5 hM5 => ?_); have HW5 : Hid (SmB W5 W4.heap.size l (sumS ps)) := hW5; have HB5 : Hid (Below W3.heap.size W3 W5) := (((Mod.refl (oneB W4.heap.size) W4).alloc _).then_ hM5).below HB4.out HB4.out.size (fun q hq => by have : q = W4.heap.size := hq; have := HB4.out.size; omega); clear hW5 hM5)
    | (go_at_call 18; refine (text33_any A1 A2 l c1 c2 ps W3.heap.size W5 HL.out hls HFI.out (HC1.out.below HB5.out (Nat.le_refl _)) (HC2.out.below HB5.out (Nat.le_refl _)) HB5.out.size (tab_below HT.out (HB3.out.trans (HB5.out.mono HB3.out.size)))).mono ?_; rintro x W6 ⟨rfl, hb6⟩; have HB6 : Hid (Below w.heap.size w W6) := HB3.out.trans ((HB5.out.trans (hb6.mono HB5.out.size)).mono HB3.out.size); have HW6 : Hid (SmB W6 W4.heap.size l (sumS ps)) := (Mod.of_below hb6).keep HW5.out (fun h => h); clear hb6)))
  have HOK := Lib.hid (sumS_ok' HL.out)
  have HKS : Hid ((sumS ps).ks.sum = l) := by
    have := ks_sum ps l (by have := HL.out; omega)
    rwa [List.take_of_length_le (by have := HL.out; omega)] at this
  have HTE := Lib.hid (text_ends ps)
  have HTL : Hid ((textL ps).length ≤ 240700) := by
    have := textL_len (l := ps) HFI.out
    have := HL.out
    show _ ≤ _
    omega
  generalize sumS ps = s at *
  generalize textL ps = tl at *
  generalize W4.heap.size = b11 at *
  clear HW5 HB5 HB4 HB3 HC1 HC2 HPW HP
  go_loopg [15, 16] 19 (fun gk n i wr => ∃ k : Nat, k + gk = 19 ∧ n = .int .i64 ((s.ks.take k).sum : Nat) ∧ i = .int .i64 k ∧ W6 = wr)
  case atStart => exact ⟨0, rfl, rfl, rfl, rfl⟩
  case round =>
    obtain ⟨k, hk, rfl, rfl, rfl⟩ := hrel
    by_cases h : k < 19
    · have c4 := sm_ks HW6.out (i := k) (by rw [HOK.out.kl]; exact h)
      have hxk : s.ks[k]? = some (s.ks.getD k 0) := by rw [List.getD_eq_getElem?_getD, List.getElem?_eq_getElem (by rw [HOK.out.kl]; exact h)]; rfl
      have HS1 := Lib.hid (show (s.ks.take (k + 1)).sum = (s.ks.take k).sum + s.ks.getD k 0 by rw [List.take_add_one, hxk, List.sum_append]; simp)
      have hle : (s.ks.take k).sum + s.ks.getD k 0 ≤ l := by
        have h1 := congrArg List.sum (List.take_append_drop (k + 1) s.ks)
        rw [List.sum_append, HKS.out, HS1.out] at h1
        omega
      unfold n33 at c4
      clear hxk
      generalize s.ks.getD k 0 = x at *
      generalize (s.ks.take k).sum = y at *
      have hw : IntKind.i64.wrap ((y : Int) + (x : Int)) = ((y + x : Nat) : Int) := by rw [IntWalk.i64_in _ (by omega)]; omega
      have hw1 : IntKind.i64.wrap ((k : Int) + 1) = (k : Int) + 1 := IntWalk.i64_in _ (by omega)
      have hki : (k : Int) < 19 := by omega
      have hd : decide ((k : Int) < 19) = true := decide_eq_true hki
      go_wp2
      go_roundg (gk - 1)
      case measure => omega
      case rel => exact ⟨k + 1, by omega, by rw [HS1.out, Int.natCast_add], by go_num, rfl⟩
    · obtain rfl : k = 19 := by omega
      have hsum : (s.ks.take 19).sum = l := by rw [List.take_of_length_le (by rw [HOK.out.kl]; exact Nat.le_refl _)]; exact HKS.out
      rw [hsum]
      go_wp2
      have hsz : (⟨tl.toArray⟩ : ByteArray).size = tl.length := List.size_toArray ..
      have HAT : Hid (∀ k x, tl[k]? = some x → ∃ h : k < (⟨tl.toArray⟩ : ByteArray).size, (⟨tl.toArray⟩ : ByteArray)[k] = x) := fun k x hx => by
        obtain ⟨h1, h2⟩ := List.getElem?_eq_some_iff.1 hx
        exact ⟨by rw [hsz]; exact h1, h2⟩
      generalize (⟨tl.toArray⟩ : ByteArray) = t at *
      have HEL : Hid (∀ k, ends (tl.take k) ≤ 240700) := fun k => by
        have h1 : ends (tl.take k) ≤ (tl.take k).length := List.length_filter_le _ _
        have h2 := HTL.out
        rw [List.length_take] at h1
        omega
      go_loopg [17, 18] tl.length (fun gk n i wr => ∃ k : Nat, k + gk = tl.length ∧ n = .int .i64 (ends (tl.take k) : Nat) ∧ i = .int .i64 k ∧ W6 = wr)
      case atStart => exact ⟨0, by omega, rfl, rfl, rfl⟩
      case round =>
        obtain ⟨k, hk, rfl, rfl, rfl⟩ := hrel
        have htl := HTL.out
        have hw1 : IntKind.i64.wrap ((k : Int) + 1) = (k : Int) + 1 := IntWalk.i64_in _ (by omega)
        by_cases h : k < tl.length
        · obtain ⟨x, hx⟩ : ∃ x, tl[k]? = some x := ⟨_, List.getElem?_eq_getElem h⟩
          obtain ⟨hlt, hxe⟩ := HAT.out k x hx
          have HS1 := Lib.hid (ends_take hx)
          have hec := HEL.out k
          have hd : decide ((k : Int) < (t.size : Int)) = true := by simp; omega
          clear hx
          generalize ends (tl.take k) = ec at *
          have hw : IntKind.i64.wrap ((ec : Int) + 1) = (ec : Int) + 1 := IntWalk.i64_in _ (by omega)
          by_cases hx10 : x = 10
          · subst hx10
            rw [if_pos rfl] at HS1
            have hxn : ((10 : UInt8).toNat : Int) = 10 := rfl
            go_wp2
            go_roundg (gk - 1)
            case measure => omega
            case rel => exact ⟨k + 1, by omega, by rw [HS1.out, Int.natCast_add]; rfl, by go_num, rfl⟩
          · rw [if_neg hx10] at HS1
            have hxn : ((x.toNat : Int) == 10) = false := by
              rw [beq_eq_false_iff_ne]
              intro e
              exact hx10 (UInt8.toNat.inj (by show x.toNat = 10; omega))
            have hxn2 : ¬ (x.toNat : Int) = 10 := by simpa using hxn
            go_wp2
            go_roundg (gk - 1)
            case measure => omega
            case rel => exact ⟨k + 1, by omega, by rw [HS1.out]; rfl, by go_num, rfl⟩
        · have hke : tl.take k = tl := List.take_of_length_le (by omega)
          rw [hke]
          have hte := HTE.out
          rw [HL.out] at hte
          rw [hte]
          have hd : decide ((k : Int) < (t.size : Int)) = false := by simp; omega
          have c0 := (sm_pre HW6.out).1
          unfold n33 at c0
          have hll : ((l : Int) == (l : Int)) = true := by simp
          go_wp2_with (go_at_call 13; refine (lives33_any _).mono ?_; rintro x w8 ⟨rfl, hb8⟩; have HB8 := Lib.hid (HB6.out.trans (hb8.mono HB6.out.size)); clear hb8)
          go_ret
          exact ⟨rfl, HB8.out⟩
theorem reportcounts_in (a : Option Addr) (len cap : Nat) (j k : Int) (w : World) (h : Lies w (.slice prSh) [.slice a len cap]) (ht : Tab10 w) (hj : -9223372036854775808 ≤ j ∧ j ≤ 9223372036854775807) (hk : -9223372036854775808 ≤ k ∧ k ≤ 9223372036854775807) :
    Calls Tryd.prog 6 #[.slice a len cap, .int .i64 j, .int .i64 k] w fun x w' => x = .returned (.bool true) ∧ Below w.heap.size w w' := by
  obtain ⟨ps, h1, _, h3, h4⟩ := prs_in h
  exact reportcounts_any a len cap j k ps w h1 (fun p hp => ⟨(h4 p hp).1, ⟨(h4 p hp).2.2.2.1, (h4 p hp).2.2.2.2⟩, bounds_i64 (h4 p hp).2.1⟩) h3 ht hj hk
end Go.Proofs.YtkgkefifcpneiaaDoor
