/- Layer 38: the law PlanMerges. -/
import Derived.Test.YtfnkbpcimbldbaaPnU
import Derived.Test.YtfnkbpcimbldbaaPnV
namespace Go.Proofs.Ytfnkbpcimbldbaa
open Go.RowKit

set_option maxRecDepth 100000 in
set_option maxHeartbeats 4000000 in
theorem planMerges_any (A0 A1 A2 : Option Addr) (l0 c0 l1 c1 l2 c2 : Nat) (o a b : List Fi) (W0 : World) (hl0 : o.length = l0) (hl1 : a.length = l1) (hl2 : b.length = l2) (hc0 : l0 ≤ c0) (hc1 : l1 ≤ c1) (hc2 : l2 ≤ c2) (hfo : Files W0 W0.heap.size A0 o) (hfa : Files W0 W0.heap.size A1 a) (hfb : Files W0 W0.heap.size A2 b) :
    Calls Try.prog 3 #[.slice A0 l0 c0, .slice A1 l1 c1, .slice A2 l2 c2] W0 fun e w' => e = .returned (.bool true) ∧ Below W0.heap.size W0 w' := by
  have HF0 := Lib.hid hfo
  have HF1 := Lib.hid hfa
  have HF2 := Lib.hid hfb
  have HL0 := Lib.hid hl0
  have HL1 := Lib.hid hl1
  have HL2 := Lib.hid hl2
  have HLV : Hid (∀ V, Below W0.heap.size W0 V → Calls Try.prog 6 #[] V fun e w' => e = .returned (.bool true) ∧ Below W0.heap.size W0 w') := fun V hV => (lives38_any V).mono fun e w' ⟨h1, h2⟩ => ⟨h1, hV.trans (h2.mono hV.size)⟩
  have HFI : Hid (∀ V, Below W0.heap.size W0 V → Files V W0.heap.size A0 o ∧ Files V W0.heap.size A1 a ∧ Files V W0.heap.size A2 b) := fun V hV => ⟨HF0.out.below hV (Nat.le_refl _), HF1.out.below hV (Nat.le_refl _), HF2.out.below hV (Nat.le_refl _)⟩
  clear hfo hfa hfb hl0 hl1 hl2
  go_enter Try.func3, Try.ntmps3
  go_wp2_with fail
  refine (wide38_any A0 l0 c0 o W0.heap.size W0 HL0.out HF0.out).mono ?_
  rintro e wq ⟨o0, rfl, hwq, ho0⟩
  have HO0 := Lib.hid ho0
  subst hwq
  clear ho0
  cases o0 with
  | true =>
    go_wp2_with fail
    refine (HLV.out _ (Below.refl _ _)).mono ?_
    rintro e wL ⟨rfl, hbL⟩
    go_wp2
    go_ret
    exact ⟨rfl, hbL⟩
  | false =>
    have HS0 := Lib.hid (HO0.out rfl)
    have hs0 : l0 ≤ 250 := by have h1 := HS0.out.1; have h2 := HL0.out; omega
    clear HO0
    go_wp2_with fail
    refine (wide38_any A1 l1 c1 a W0.heap.size W0 HL1.out HF1.out).mono ?_
    rintro e wq ⟨o1, rfl, hwq, ho1⟩
    have HO1 := Lib.hid ho1
    subst hwq
    clear ho1
    cases o1 with
    | true =>
      go_wp2_with fail
      refine (HLV.out _ (Below.refl _ _)).mono ?_
      rintro e wL ⟨rfl, hbL⟩
      go_wp2
      go_ret
      exact ⟨rfl, hbL⟩
    | false =>
      have HS1 := Lib.hid (HO1.out rfl)
      have hs1 : l1 ≤ 250 := by have h1 := HS1.out.1; have h2 := HL1.out; omega
      clear HO1
      go_wp2_with fail
      refine (wide38_any A2 l2 c2 b W0.heap.size W0 HL2.out HF2.out).mono ?_
      rintro e wq ⟨o2, rfl, hwq, ho2⟩
      have HO2 := Lib.hid ho2
      subst hwq
      clear ho2
      cases o2 with
      | true =>
        go_wp2_with fail
        refine (HLV.out _ (Below.refl _ _)).mono ?_
        rintro e wL ⟨rfl, hbL⟩
        go_wp2
        go_ret
        exact ⟨rfl, hbL⟩
      | false =>
        have HS2 := Lib.hid (HO2.out rfl)
        have hs2 : l2 ≤ 250 := by have h1 := HS2.out.1; have h2 := HL2.out; omega
        clear HO2
        go_wp2_with fail
        obtain ⟨q0, hq0⟩ : ∃ q, mapB o = q := ⟨_, rfl⟩
        have HM0 := Lib.hid (refMap25_any A0 l0 c0 o W0.heap.size W0 HL0.out (by omega) (HFI.out W0 (Below.refl _ _)).1)
        rw [hq0] at HM0
        refine HM0.out.mono ?_
        rintro e w1 ⟨rfl, n0, hw0⟩
        have HY1 : Hid (Below W0.heap.size W0 w1) := by show Below _ _ _; rw [← hw0]; exact Below.drewN (Below.refl _ _) _
        have HQ0 := Lib.hid hq0
        clear hw0 hq0 HM0
        cases q0 with
        | false =>
          go_wp2_with fail
          refine (HLV.out _ HY1.out).mono ?_
          rintro e wL ⟨rfl, hbL⟩
          go_wp2
          go_ret
          exact ⟨rfl, hbL⟩
        | true =>
          have HR0 := Lib.hid (mapB_ris HQ0.out)
          go_wp2_with fail
          obtain ⟨q1, hq1⟩ : ∃ q, mapB a = q := ⟨_, rfl⟩
          have HM1 := Lib.hid (refMap25_any A1 l1 c1 a W0.heap.size w1 HL1.out (by omega) (HFI.out w1 HY1.out).2.1)
          rw [hq1] at HM1
          refine HM1.out.mono ?_
          rintro e w2 ⟨rfl, n1, hw1⟩
          have HY2 : Hid (Below W0.heap.size W0 w2) := by show Below _ _ _; rw [← hw1]; exact Below.drewN HY1.out _
          have HQ1 := Lib.hid hq1
          clear hw1 hq1 HM1
          cases q1 with
          | false =>
            go_wp2_with fail
            refine (HLV.out _ HY2.out).mono ?_
            rintro e wL ⟨rfl, hbL⟩
            go_wp2
            go_ret
            exact ⟨rfl, hbL⟩
          | true =>
            have HR1 := Lib.hid (mapB_ris HQ1.out)
            go_wp2_with fail
            obtain ⟨q2, hq2⟩ : ∃ q, mapB b = q := ⟨_, rfl⟩
            have HM2 := Lib.hid (refMap25_any A2 l2 c2 b W0.heap.size w2 HL2.out (by omega) (HFI.out w2 HY2.out).2.2)
            rw [hq2] at HM2
            refine HM2.out.mono ?_
            rintro e w3 ⟨rfl, n2, hw2⟩
            have HY3 : Hid (Below W0.heap.size W0 w3) := by show Below _ _ _; rw [← hw2]; exact Below.drewN HY2.out _
            have HQ2 := Lib.hid hq2
            clear hw2 hq2 HM2
            cases q2 with
            | false =>
              go_wp2_with fail
              refine (HLV.out _ HY3.out).mono ?_
              rintro e wL ⟨rfl, hbL⟩
              go_wp2
              go_ret
              exact ⟨rfl, hbL⟩
            | true =>
              have HR2 := Lib.hid (mapB_ris HQ2.out)
              obtain ⟨ho, ha, hb⟩ := HFI.out w3 HY3.out
              have HMG := Lib.hid (merge_any A0 A1 A2 l0 c0 l1 c1 l2 c2 o a b W0.heap.size w3 HL0.out HL1.out HL2.out (by omega) (by omega) (by omega) ⟨hc0, Nat.zero_le _⟩ ⟨hc1, Nat.zero_le _⟩ ⟨hc2, Nat.zero_le _⟩ HR0.out HR1.out HR2.out ho ha hb (fun f hf => by have := (HS0.out.2 f hf).2; omega) (fun f hf => by have := (HS1.out.2 f hf).2; omega) (fun f hf => by have := (HS2.out.2 f hf).2; omega) HY3.out.size)
              clear ho ha hb
              go_wp2_with fail
              refine HMG.out.mono ?_
              rintro e w4 ⟨Am, cm, fs, Ac, cc, cs, rfl, hk4, hf4, hc4, hs4, hb4⟩
              have HY4 := Lib.hid (HY3.out.trans (hb4.mono HY3.out.size))
              have HK4 := Lib.hid hk4
              have HF4 := Lib.hid hf4
              have HC4 := Lib.hid hc4
              have HN4 := Lib.hid hs4
              clear hk4 hf4 hc4 hs4 hb4 HMG
              obtain ⟨ho, ha, hb⟩ := HFI.out w4 HY4.out
              have HMG := Lib.hid (refMerge_any A0 A1 A2 l0 c0 l1 c1 l2 c2 o a b W0.heap.size w4 HL0.out HL1.out HL2.out (by omega) (by omega) (by omega) HR0.out HR1.out HR2.out ho ha hb HY4.out.size)
              clear ho ha hb
              go_wp2_with fail
              refine HMG.out.mono ?_
              rintro e w5 ⟨Am2, cm2, fs2, Ac2, cc2, cs2, rfl, hk5, hf5, hc5, hs5, hb5⟩
              have HY5 := Lib.hid (HY4.out.trans (hb5.mono HY4.out.size))
              have HK5 := Lib.hid hk5
              have HF5 := Lib.hid hf5
              have HC5 := Lib.hid hc5
              have HN5 := Lib.hid hs5
              have HF45 := Lib.hid ((HF4.out.below hb5 (Nat.le_refl _)).more hb5.size)
              have HN45 := Lib.hid ((HN4.out.below hb5 (Nat.le_refl _)).more hb5.size)
              clear hk5 hf5 hc5 hs5 hb5 HMG
              have hlen : fs.length ≤ 1000000 := by
                have h1 := congrArg List.length HK4.out
                rw [List.length_map] at h1
                rw [h1]
                refine Nat.le_trans (List.length_filterMap_le _ _) (Nat.le_trans (uni_len _) ?_)
                rw [List.length_append, List.length_append, List.length_map, List.length_map, List.length_map, List.length_map, List.length_map, List.length_map]
                have := HL0.out; have := HL1.out; have := HL2.out; omega
              have hlen2 : cs.length ≤ 1000000 := by
                rw [HC4.out]
                refine Nat.le_trans (List.length_filter_le _ _) (Nat.le_trans (uni_len _) ?_)
                rw [List.length_append, List.length_append, List.length_map, List.length_map, List.length_map, List.length_map, List.length_map, List.length_map]
                have := HL0.out; have := HL1.out; have := HL2.out; omega
              have HSM := Lib.hid (refSame25_any Am fs.length cm Am2 fs2.length cm2 fs fs2 w5.heap.size w5 rfl rfl hlen HF45.out HF5.out)
              rw [eqF_yes (HK4.out.trans HK5.out.symm)] at HSM
              go_wp2_with fail
              refine HSM.out.mono ?_
              rintro e w6 ⟨rfl, n6, hw6⟩
              have HY6 : Hid (Below W0.heap.size W0 w6) := by show Below _ _ _; rw [← hw6]; exact Below.drewN HY5.out _
              have HN46 : Hid (Cells w6 w5.heap.size Ac (nmV cs)) := by show Cells _ _ _ _; rw [← hw6]; exact HN45.out.drewN' n6
              have HN56 : Hid (Cells w6 w5.heap.size Ac2 (nmV cs2)) := by show Cells _ _ _ _; rw [← hw6]; exact HN5.out.drewN' n6
              clear hw6 HSM
              have HSM := Lib.hid (refSame15_any Ac cs.length cc Ac2 cs2.length cc2 cs cs2 w5.heap.size w6 rfl rfl hlen2 HN46.out HN56.out)
              rw [decide_eq_true (HC4.out.trans HC5.out.symm)] at HSM
              go_wp2_with fail
              refine HSM.out.mono ?_
              rintro e w7 ⟨rfl, n7, hw7⟩
              have HY7 : Hid (Below W0.heap.size W0 w7) := by show Below _ _ _; rw [← hw7]; exact Below.drewN HY6.out _
              clear hw7 HSM
              go_wp2_with fail
              refine (HLV.out _ HY7.out).mono ?_
              rintro e wL ⟨rfl, hbL⟩
              go_wp2
              go_ret
              exact ⟨rfl, hbL⟩
end Go.Proofs.Ytfnkbpcimbldbaa
