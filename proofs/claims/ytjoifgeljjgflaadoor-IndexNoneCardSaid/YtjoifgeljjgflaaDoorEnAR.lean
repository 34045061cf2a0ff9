/- Layer 19: are members a directory: the reference's. -/
import Derived.Test.YtjoifgeljjgflaaDoorEnA
namespace Go.Proofs.YtjoifgeljjgflaaDoor
open Go.RowKit

set_option maxRecDepth 100000 in
set_option maxHeartbeats 4000000 in
theorem refEnAll_any (A : Option Addr) (l c : Nat) (ms : List LM) (B : Nat) (w : World) (hl : ms.length = l) (hm : l ≤ 1099511627776) (hok : ∀ m ∈ ms, m.Ok) (hb : Cells w B A (ms.map LM.cells).flatten) (hB : B ≤ w.heap.size) :
    Calls Tryd.prog 10 #[.slice A l c] w fun e w' => e = .returned (.bool (allB ms)) ∧ Below w.heap.size w w' := by
  have HC := Lib.hid hb
  have HL := Lib.hid hl
  have HFL := Lib.hid (mems_len ms)
  have HOK := Lib.hid hok
  have HB := Lib.hid hB
  clear hb hok hB hl
  go_enter Tryd.func10, Tryd.ntmps10
  go_wp2
  go_loopg [3] l (fun gk i wr => ∃ k : Nat, k + gk = l ∧ i = .int .i64 k ∧ Below w.heap.size w wr ∧ goodTo ms k)
  case atStart => exact ⟨0, by omega, rfl, Below.refl _ _, goodTo_zero _⟩
  case round =>
    obtain ⟨k, hk, rfl, hbel, hgood⟩ := hrel
    have HBL := Lib.hid hbel
    have HGD := Lib.hid hgood
    clear hbel hgood
    by_cases h : k < l
    · obtain ⟨m, hx⟩ : ∃ x, ms[k]? = some x := ⟨_, List.getElem?_eq_getElem (by have := HL.out; omega)⟩
      obtain ⟨b, o, rfl, hbB, hc⟩ := HC.out (by rw [HFL.out, HL.out]; omega)
      have hBw := HB.out
      have HM := Lib.hid (mem_at hbB hc (hBw_below HBL.out hBw) hx)
      have HX := Lib.hid hx
      have HOKm := Lib.hid (HOK.out m (List.mem_of_getElem? hx))
      have HM0 : Hid (∀ j p W, Below wr.heap.size wr W → ms[j]? = some p → MemAt W b (o + j * 7) p) := fun j p W hW hp => mem_at hbB hc ((hBw_below HBL.out hBw).trans (hW.mono (Nat.le_trans hBw HBL.out.size))) hp
      clear hc hx
      go_wp2_with fail
      obtain ⟨ι, f, n0, hf0, hfb, hfu⟩ := below_class wr
      have HFU := Lib.hid hfu
      have HFB := Lib.hid hfb
      have HMY := Lib.hid (fun n => HM0.out k m (f n) (HFB.out n) HX.out)
      have y0 := fun n => (HMY.out n).c0
      have y1 := fun n => (HMY.out n).c1
      have y2 := fun n => (HMY.out n).c2
      have y3 := fun n => (HMY.out n).c3
      have y4 := fun n => (HMY.out n).c4
      have y5 := fun n => (HMY.out n).c5
      have y6 := fun n => (HMY.out n).c6
      haveI : Nonempty ι := ⟨n0⟩
      clear hfb hfu
      have HRT := Lib.hid (fun W => refEn_any m.nm m.at_ m.fr m.ar m.sz m.su m.me W HOKm.out.1 HOKm.out.2.1 HOKm.out.2.2.1)
      obtain ⟨mb, hmb⟩ : ∃ mb, memB m.nm m.at_ m.fr m.ar m.sz m.me = mb := ⟨_, rfl⟩
      rw [hmb] at HRT
      have HMB : Hid (m.B = mb) := hmb
      clear hmb
      cases mb with
      | false =>
        refine region_quiet_f f n0 hf0 (by kernel_rfl) (by kernel_rfl) ?_
        repeat (go_big_quiet_step ((go_at_call 29; exact quiet_f HFU.out (HRT.out _))))
        refine wpQuiet_nil ?_
        rintro _ ⟨nq, rfl⟩
        have HB1 := Lib.hid (HBL.out.trans ((HFB.out nq).mono HBL.out.size))
        clear HMY y0 y1 y2 y3 y4 y5 y6 HFB HFU hf0
        generalize f nq = w1 at *
        go_wp2
        go_ret
        exact ⟨by rw [allB_bad HX.out HMB.out]; rfl, HB1.out⟩
      | true =>
        by_cases hk0 : k = 0
        · have hkd : decide (0 < k) = false := by simp; omega
          have HK0 := Lib.hid hk0
          clear hk0
          refine region_quiet_f f n0 hf0 (by kernel_rfl) (by kernel_rfl) ?_
          repeat (go_big_quiet_step ((go_at_call 29; exact quiet_f HFU.out (HRT.out _))))
          refine wpQuiet_nil ?_
          rintro _ ⟨nq, rfl⟩
          have HB1 := Lib.hid (HBL.out.trans ((HFB.out nq).mono HBL.out.size))
          clear HMY y0 y1 y2 y3 y4 y5 y6 HFB HFU hf0
          generalize f nq = w1 at *
          go_wp2
          go_roundg (gk - 1)
          case measure => omega
          case rel => exact ⟨k + 1, by omega, by go_num, HB1.out, goodTo_succ HGD.out HX.out HMB.out (fun p h => absurd h (by have := HK0.out; omega))⟩
        · obtain ⟨p, hp⟩ : ∃ p, ms[k - 1]? = some p := ⟨_, List.getElem?_eq_getElem (by have := HL.out; omega)⟩
          have HP := Lib.hid hp
          have HMP := Lib.hid (fun n => (HM0.out (k - 1) p (f n) (HFB.out n) hp).c0)
          obtain ⟨q, hq⟩ : ∃ q, k - 1 = q := ⟨_, rfl⟩
          rw [hq] at HMP
          have x0 := HMP.out
          have hw1 : IntKind.i64.wrap ((k : Int) - 1) = (q : Int) := by rw [IntWalk.i64_in _ (by omega)]; omega
          have hq0 : (0 : Int) ≤ (q : Int) := by omega
          have hq1 : (q : Int) < (l : Int) := by omega
          have hkd : decide ((0 : Int) < (k : Int)) = true := by simp; omega
          obtain ⟨le, hle⟩ : ∃ le, leB m.nm p.nm = le := ⟨_, rfl⟩
          have hle' : (Op.bytesLess m.nm.toList p.nm.toList || m.nm.toList == p.nm.toList) = le := hle
          have HLE := Lib.hid hle
          have hk1 : 0 < k := by omega
          clear hp hle hk0 hq
          refine region_quiet_f f n0 hf0 (by kernel_rfl) (by kernel_rfl) ?_
          repeat (go_big_quiet_step ((go_at_call 29; exact quiet_f HFU.out (HRT.out _))))
          refine wpQuiet_nil ?_
          rintro _ ⟨nq, rfl⟩
          have HB1 := Lib.hid (HBL.out.trans ((HFB.out nq).mono HBL.out.size))
          clear HMY y0 y1 y2 y3 y4 y5 y6 x0 HMP HFB HFU hf0
          generalize f nq = w1 at *
          cases le with
          | true =>
            go_wp2
            go_ret
            exact ⟨by rw [allB_low HX.out hk1 HP.out HLE.out]; rfl, HB1.out⟩
          | false =>
            go_wp2
            go_roundg (gk - 1)
            case measure => omega
            case rel => exact ⟨k + 1, by omega, by go_num, HB1.out, goodTo_succ HGD.out HX.out HMB.out (fun p' _ hp' => by rw [HP.out] at hp'; injection hp' with hp'; subst hp'; exact HLE.out)⟩
    · obtain rfl : k = l := by omega
      have HT : Hid (allB ms = decide ((k : Int) < 201)) := by
        show _ = _
        by_cases h2 : k ≤ 200
        · rw [allB_of (by rw [HL.out]; exact h2) (by rw [HL.out]; exact HGD.out)]; simp; omega
        · rw [allB_long (by rw [HL.out]; omega)]; simp; omega
      go_wp2
      go_ret
      exact ⟨by rw [HT.out]; rfl, HBL.out⟩
end Go.Proofs.YtjoifgeljjgflaaDoor
