/- Layer 38: the law PlanDiffs. -/
import Derived.Test.YtfnkbpcimbldbaaDoorMgQ17235
namespace Go.Proofs.YtfnkbpcimbldbaaDoor
open Go.RowKit

theorem diffL_len (a b : KL) : (diffL a b).length ≤ a.length + b.length := by
  unfold diffL goneN putN
  rw [List.length_append, List.length_map, List.length_map]
  have h1 := List.length_filter_le (fun n => (getK b n).isNone) (a.map Prod.fst)
  have h2 := List.length_filter_le (fun x => !decide (getK a x.1 = some x.2)) b
  rw [List.length_map] at h1
  omega
set_option maxRecDepth 100000 in
set_option maxHeartbeats 4000000 in
theorem planDiffs_any (A0 A1 : Option Addr) (l0 c0 l1 c1 : Nat) (a b : List Fi) (W0 : World) (hl0 : a.length = l0) (hl1 : b.length = l1) (hc0 : l0 ≤ c0) (hc1 : l1 ≤ c1) (hfa : Files W0 W0.heap.size A0 a) (hfb : Files W0 W0.heap.size A1 b) :
    Calls Tryd.prog 3 #[.slice A0 l0 c0, .slice A1 l1 c1] W0 fun e w' => e = .returned (.bool true) ∧ Below W0.heap.size W0 w' := by
  have HF0 := Lib.hid hfa
  have HF1 := Lib.hid hfb
  have HL0 := Lib.hid hl0
  have HL1 := Lib.hid hl1
  have HLV : Hid (∀ V, Below W0.heap.size W0 V → Calls Tryd.prog 8 #[] V fun e w' => e = .returned (.bool true) ∧ Below W0.heap.size W0 w') := fun V hV => (lives38_any V).mono fun e w' ⟨h1, h2⟩ => ⟨h1, hV.trans (h2.mono hV.size)⟩
  have HFI : Hid (∀ V, Below W0.heap.size W0 V → Files V W0.heap.size A0 a ∧ Files V W0.heap.size A1 b) := fun V hV => ⟨HF0.out.below hV (Nat.le_refl _), HF1.out.below hV (Nat.le_refl _)⟩
  clear hfa hfb hl0 hl1
  go_enter Tryd.func3, Tryd.ntmps3
  go_wp2_with fail
  refine (wide38_any A0 l0 c0 a W0.heap.size W0 HL0.out HF0.out).mono ?_
  rintro e wq ⟨o0, rfl, hwq, ho0⟩
  have HO0 := Lib.hid ho0
  subst hwq
  clear ho0
  cases o0 with
  | true =>
    go_wp2_with fail
    refine (HLV.out _ (Below.refl W0.heap.size W0)).mono ?_
    rintro e wL ⟨rfl, hbL⟩
    go_wp2
    go_ret
    exact ⟨rfl, hbL⟩
  | false =>
    have HS0 := Lib.hid (HO0.out rfl)
    have hs0 : l0 ≤ 250 := by have h1 := HS0.out.1; have h2 := HL0.out; omega
    clear HO0
    go_wp2_with fail
    refine (wide38_any A1 l1 c1 b W0.heap.size W0 HL1.out HF1.out).mono ?_
    rintro e wq ⟨o1, rfl, hwq, ho1⟩
    have HO1 := Lib.hid ho1
    subst hwq
    clear ho1
    cases o1 with
    | true =>
      go_wp2_with fail
      refine (HLV.out _ (Below.refl W0.heap.size W0)).mono ?_
      rintro e wL ⟨rfl, hbL⟩
      go_wp2
      go_ret
      exact ⟨rfl, hbL⟩
    | false =>
      have HS1 := Lib.hid (HO1.out rfl)
      have hs1 : l1 ≤ 250 := by have h1 := HS1.out.1; have h2 := HL1.out; omega
      clear HO1
      obtain ⟨r0, hr0⟩ : ∃ q, rightL a = q := ⟨_, rfl⟩
      have hrr0 : (r0 != r0) = false := by simp
      go_wp2_with fail
      have HM1 := Lib.hid (planRight_any A0 l0 c0 a W0.heap.size W0 HL0.out (by omega) HS0.out.2 (HFI.out W0 (Below.refl W0.heap.size W0)).1 (Below.refl W0.heap.size W0).size)
      rw [hr0] at HM1
      refine HM1.out.mono ?_
      rintro e w1 ⟨rfl, hb1⟩
      have HY1 := Lib.hid ((Below.refl W0.heap.size W0).trans (hb1.mono (Below.refl W0.heap.size W0).size))
      clear hb1 HM1
      go_wp2_with fail
      have HM2 := Lib.hid (refRight38_any A0 l0 c0 a W0.heap.size w1 HL0.out (by omega) HS0.out.2 (HFI.out w1 HY1.out).1 HY1.out.size)
      rw [hr0] at HM2
      refine HM2.out.mono ?_
      rintro e w2 ⟨rfl, hb2⟩
      have HY2 := Lib.hid (HY1.out.trans (hb2.mono HY1.out.size))
      clear hb2 HM2
      clear hr0
      obtain ⟨r1, hr1⟩ : ∃ q, rightL b = q := ⟨_, rfl⟩
      have hrr1 : (r1 != r1) = false := by simp
      go_wp2_with fail
      have HM3 := Lib.hid (planRight_any A1 l1 c1 b W0.heap.size w2 HL1.out (by omega) HS1.out.2 (HFI.out w2 HY2.out).2 HY2.out.size)
      rw [hr1] at HM3
      refine HM3.out.mono ?_
      rintro e w3 ⟨rfl, hb3⟩
      have HY3 := Lib.hid (HY2.out.trans (hb3.mono HY2.out.size))
      clear hb3 HM3
      go_wp2_with fail
      have HM4 := Lib.hid (refRight38_any A1 l1 c1 b W0.heap.size w3 HL1.out (by omega) HS1.out.2 (HFI.out w3 HY3.out).2 HY3.out.size)
      rw [hr1] at HM4
      refine HM4.out.mono ?_
      rintro e w4 ⟨rfl, hb4⟩
      have HY4 := Lib.hid (HY3.out.trans (hb4.mono HY3.out.size))
      clear hb4 HM4
      clear hr1
      go_wp2_with fail
      obtain ⟨q0, hq0⟩ : ∃ q, mapB a = q := ⟨_, rfl⟩
      have HM5 := Lib.hid (refMap25_any A0 l0 c0 a W0.heap.size w4 HL0.out (by omega) (HFI.out w4 HY4.out).1)
      rw [hq0] at HM5
      refine HM5.out.mono ?_
      rintro e w5 ⟨rfl, n0, hw0⟩
      have HY5 : Hid (Below W0.heap.size W0 w5) := by show Below _ _ _; rw [← hw0]; exact Below.drewN HY4.out _
      have HQ0 := Lib.hid hq0
      clear hw0 hq0 HM5
      cases q0 with
      | false =>
        go_wp2_with fail
        refine (HLV.out _ HY5.out).mono ?_
        rintro e wL ⟨rfl, hbL⟩
        go_wp2
        go_ret
        exact ⟨rfl, hbL⟩
      | true =>
        have HR0 := Lib.hid (mapB_ris HQ0.out)
        go_wp2_with fail
        obtain ⟨q1, hq1⟩ : ∃ q, mapB b = q := ⟨_, rfl⟩
        have HM6 := Lib.hid (refMap25_any A1 l1 c1 b W0.heap.size w5 HL1.out (by omega) (HFI.out w5 HY5.out).2)
        rw [hq1] at HM6
        refine HM6.out.mono ?_
        rintro e w6 ⟨rfl, n1, hw1⟩
        have HY6 : Hid (Below W0.heap.size W0 w6) := by show Below _ _ _; rw [← hw1]; exact Below.drewN HY5.out _
        have HQ1 := Lib.hid hq1
        clear hw1 hq1 HM6
        cases q1 with
        | false =>
          go_wp2_with fail
          refine (HLV.out _ HY6.out).mono ?_
          rintro e wL ⟨rfl, hbL⟩
          go_wp2
          go_ret
          exact ⟨rfl, hbL⟩
        | true =>
          have HR1 := Lib.hid (mapB_ris HQ1.out)
          obtain ⟨ha, hb⟩ := HFI.out w6 HY6.out
          have HMG := Lib.hid (diff_any A0 A1 l0 c0 l1 c1 a b W0.heap.size w6 HL0.out HL1.out (by omega) (by omega) ⟨hc0, Nat.zero_le _⟩ ⟨hc1, Nat.zero_le _⟩ HR0.out HR1.out ha hb (fun f hf => by have := (HS1.out.2 f hf).2; omega) HY6.out.size)
          clear ha hb
          go_wp2_with fail
          refine HMG.out.mono ?_
          rintro e v1 ⟨Am, cm, os, rfl, hk4, hf4, hb4⟩
          have HZ1 := Lib.hid (HY6.out.trans (hb4.mono HY6.out.size))
          have HK4 := Lib.hid hk4
          have HF4 := Lib.hid hf4
          clear hk4 hf4 hb4 HMG
          obtain ⟨ha, hb⟩ := HFI.out v1 HZ1.out
          have HMG := Lib.hid (refDiff_any A0 A1 l0 c0 l1 c1 a b W0.heap.size v1 HL0.out HL1.out (by omega) (by omega) HR0.out HR1.out ha hb HZ1.out.size)
          clear ha hb
          go_wp2_with fail
          refine HMG.out.mono ?_
          rintro e v2 ⟨Am2, cm2, ps, rfl, hk5, hf5, hb5⟩
          have HZ2 := Lib.hid (HZ1.out.trans (hb5.mono HZ1.out.size))
          have HK5 := Lib.hid hk5
          have HF5 := Lib.hid hf5
          have HF45 : Hid (Ops v2 v2.heap.size Am os) := ⟨(HF4.out.row.below hb5 (Nat.le_refl _)).more hb5.size, fun o ho => ⟨((HF4.out.each o ho).1.below hb5 (Nat.le_refl _)).more hb5.size, (HF4.out.each o ho).2⟩⟩
          clear hk5 hf5 hb5 HMG
          have hpo : os.map OL.po = ps.map OL.po := HK4.out.trans HK5.out.symm
          have hll : ps.length = os.length := by have h1 := congrArg List.length hpo; rw [List.length_map, List.length_map] at h1; exact h1.symm
          have hlen : os.length ≤ 1000000 := by
            have h1 := congrArg List.length HK4.out
            rw [List.length_map] at h1
            rw [h1]
            refine Nat.le_trans (diffL_len _ _) ?_
            rw [List.length_map, List.length_map]
            have := HL0.out; have := HL1.out; omega
          have HSM := Lib.hid (refSame38_any Am cm Am2 cm2 os.length os ps v2.heap.size v2 rfl hlen hpo HF45.out HF5.out)
          rw [hll]
          clear hpo hll hlen
          go_wp2_with fail
          refine HSM.out.mono ?_
          rintro e v3 ⟨rfl, n6, hw6⟩
          have HZ3 : Hid (Below W0.heap.size W0 v3) := by show Below _ _ _; rw [← hw6]; exact Below.drewN HZ2.out _
          clear hw6 HSM
          go_wp2_with fail
          refine (HLV.out _ HZ3.out).mono ?_
          rintro e wL ⟨rfl, hbL⟩
          go_wp2
          go_ret
          exact ⟨rfl, hbL⟩
end Go.Proofs.YtfnkbpcimbldbaaDoor
/- Layer 38: the law PlanDiffs, over what came in. -/
namespace Go.Proofs.YtfnkbpcimbldbaaDoor
open Go.RowKit

theorem cap_liesP {w : World} {e : Sh} {a : Option Addr} {len cap : Nat} (h : Lies w (.slice e) [.slice a len cap]) : len ≤ cap := by
  obtain ⟨A, l', c', X, he, _, hlc, _⟩ := h
  injection he with h1 h2
  injection h1 with h3 h4 h5
  omega
theorem planDiffs_in (a0 : Option Addr) (len0 cap0 : Nat) (a1 : Option Addr) (len1 cap1 : Nat) (w : World) (w0 : Lies w (.slice fiSh) [.slice a0 len0 cap0]) (w1 : Lies w (.slice fiSh) [.slice a1 len1 cap1]) :
    Calls Tryd.prog 3 #[.slice a0 len0 cap0, .slice a1 len1 cap1] w fun e w' => e = .returned (.bool true) ∧ Below w.heap.size w w' := by
  obtain ⟨fs, hl, _, hf, _⟩ := files_in w0
  obtain ⟨gs, hl2, _, hf2, _⟩ := files_in w1
  exact planDiffs_any a0 a1 len0 cap0 len1 cap1 fs gs w hl hl2 (cap_liesP w0) (cap_liesP w1) hf hf2
end Go.Proofs.YtfnkbpcimbldbaaDoor
