/- Layer 38: Right of both. -/
import Derived.Test.YtfnkbpcimbldbaaDoorMgQ32432
import Derived.Test.YtfnkbpcimbldbaaDoorMgQ324SMemR
import Derived.Test.YtfnkbpcimbldbaaDoorMgQ324SRef15
namespace Go.Proofs.YtfnkbpcimbldbaaDoor
open Go.RowKit

def okF (f : Fi) : Bool := rightB f.nm.data.toList && decide (f.data.length ≤ 65536)
/-- May files be kept? -/
def rightL (fs : List Fi) : Bool := decide (fs.length ≤ 200) && fs.all okF && mapB fs
theorem rightL_bad {fs : List Fi} {k : Nat} {x : Fi} (hx : fs[k]? = some x) (h : okF x = false) : rightL fs = false := by
  unfold rightL
  have : fs.all okF = false := by
    rw [← Bool.not_eq_true, List.all_eq_true]
    intro ha
    rw [ha x (List.mem_of_getElem? hx)] at h
    cases h
  rw [this]
  simp
end Go.Proofs.YtfnkbpcimbldbaaDoor
/- Layer 38: the reference: Diff, Same of steps. -/
namespace Go.Proofs.YtfnkbpcimbldbaaDoor
open Go.RowKit

set_option maxRecDepth 100000 in
set_option maxHeartbeats 2000000 in
theorem refRight38_any (A : Option Addr) (l c : Nat) (fs : List Fi) (B : Nat) (w : World) (hl : fs.length = l) (hm : l ≤ 1000) (hn : ∀ f ∈ fs, f.nm.size ≤ 300 ∧ f.data.length ≤ 70000) (hb : Files w B A fs) (hB : B ≤ w.heap.size) :
    Calls Tryd.prog 10 #[.slice A l c] w fun e w' => e = .returned (.bool (rightL fs)) ∧ Below w.heap.size w w' := by
  have HF := Lib.hid hb
  have HL := Lib.hid hl
  have HN := Lib.hid hn
  have HB := Lib.hid hB
  clear hb hl hn hB
  go_enter Tryd.func10, Tryd.ntmps10
  go_wp2
  go_loopg [3] l (fun gk i wr => ∃ k : Nat, k + gk = l ∧ i = .int .i64 (k : Int) ∧ Below w.heap.size w wr ∧ ∀ (j : Nat) (x : Fi), j < k → fs[j]? = some x → okF x = true)
  case atStart => exact ⟨0, by omega, rfl, Below.refl _ _, fun j x hj => absurd hj (Nat.not_lt_zero _)⟩
  case round =>
    obtain ⟨k, hk, rfl, hbel, hok⟩ := hrel
    have HBL := Lib.hid hbel
    have HOK := Lib.hid hok
    clear hbel hok
    by_cases h : k < l
    · obtain ⟨x, hx⟩ : ∃ x, fs[k]? = some x := ⟨_, List.getElem?_eq_getElem (by have := HL.out; omega)⟩
      have HCX : Hid (∃ b o, A = some ⟨b, o, none⟩ ∧ ∀ V, Below w.heap.size w V → V.cell? ⟨b, o + k * 2, none⟩ = some (.string x.nm) ∧ V.cell? ⟨b, o + k * 2 + 1, none⟩ = some (.slice x.ad x.data.length x.cp)) := by
        obtain ⟨b', o', e, _, _⟩ := HF.out.row (by rw [fi_len]; have := HL.out; omega)
        refine ⟨b', o', e, fun V hV => ?_⟩
        obtain ⟨b2, o2, e', _, hc2⟩ := (HF.out.below hV HB.out).row (by rw [fi_len]; have := HL.out; omega)
        rw [e] at e'
        injection e' with e'
        injection e' with q1 q2 q3
        subst q1 q2
        exact fi_at hc2 hx
      obtain ⟨b, o, rfl, hcx⟩ := HCX.out
      have HCV := Lib.hid hcx
      obtain ⟨c0, c1⟩ := hcx wr HBL.out
      have HX := Lib.hid hx
      have hki : (k : Int) < (l : Int) := by omega
      have hw1 : IntKind.i64.wrap ((k : Int) + 1) = (k : Int) + 1 := IntWalk.i64_in _ (by omega)
      have hnx := HN.out x (List.mem_of_getElem? hx)
      have HRM := Lib.hid (refRight_any x.nm wr (by unfold maxLen; omega))
      obtain ⟨rb, hrb⟩ : ∃ rb, rightB x.nm.data.toList = rb := ⟨_, rfl⟩
      rw [hrb] at HRM
      have HRB := Lib.hid hrb
      clear hx hcx HCX hrb hnx
      cases rb with
      | false =>
        have HBD := Lib.hid (rightL_bad HX.out (by unfold okF; rw [HRB.out]; rfl))
        go_wp2_with (go_at_call 23; refine HRM.out.mono ?_; rintro e w7 ⟨rfl, hb7⟩; have HB7 := Lib.hid hb7; clear hb7)
        go_ret
        exact ⟨by rw [HBD.out]; rfl, HBL.out.trans (HB7.out.mono HBL.out.size)⟩
      | true =>
        by_cases hd : x.data.length ≤ 65536
        · have td : decide (65536 < (x.data.length : Int)) = false := by simp; omega
          have HOX : Hid (okF x = true) := by show _ = _; unfold okF; rw [HRB.out, decide_eq_true hd]; rfl
          clear hd
          go_wp2_with (go_at_call 23; refine HRM.out.mono ?_; rintro e w7 ⟨rfl, hb7⟩; have HB7 := Lib.hid (HBL.out.trans (hb7.mono HBL.out.size)); obtain ⟨v0, v1⟩ := HCV.out w7 HB7.out; clear hb7)
          go_roundg (gk - 1)
          case measure => omega
          case rel =>
            refine ⟨k + 1, by omega, by go_num, HB7.out, fun j x' hj hx' => ?_⟩
            by_cases e : j = k
            · subst e
              rw [HX.out] at hx'
              injection hx' with hx'
              subst hx'
              exact HOX.out
            · exact HOK.out j x' (by omega) hx'
        · have td : decide (65536 < (x.data.length : Int)) = true := by simp; omega
          have HBD := Lib.hid (rightL_bad HX.out (by unfold okF; rw [decide_eq_false hd]; simp))
          clear hd
          go_wp2_with (go_at_call 23; refine HRM.out.mono ?_; rintro e w7 ⟨rfl, hb7⟩; have HB7 := Lib.hid (HBL.out.trans (hb7.mono HBL.out.size)); obtain ⟨v0, v1⟩ := HCV.out w7 HB7.out; clear hb7)
          go_ret
          exact ⟨by rw [HBD.out]; rfl, HB7.out⟩
    · obtain rfl : l = k := by omega
      have hki : ¬ (l : Int) < (l : Int) := by omega
      have HAL : Hid (fs.all okF = true) := by
        show _ = _
        rw [List.all_eq_true]
        intro x hx
        obtain ⟨j, hj⟩ := List.mem_iff_getElem?.1 hx
        exact HOK.out j x (by have := (List.getElem?_eq_some_iff.1 hj).1; have := HL.out; omega) hj
      have HMP := Lib.hid (refMap25_any A l c fs B wr HL.out (by omega) (HF.out.below HBL.out HB.out))
      obtain ⟨q, hq⟩ : ∃ q, mapB fs = q := ⟨_, rfl⟩
      rw [hq] at HMP
      have HQ := Lib.hid hq
      clear hq
      by_cases hs : l ≤ 200
      · have td : decide ((l : Int) < 201) = true := by simp; omega
        have HRE : Hid (rightL fs = q) := by show _ = _; unfold rightL; rw [HAL.out, HQ.out, HL.out, decide_eq_true hs]; simp
        clear hs
        go_wp2_with (go_at_call 11; refine HMP.out.mono ?_; rintro e w7 ⟨rfl, n7, hw7⟩; have HB7 : Hid (Below w.heap.size w w7) := (by show Below _ _ _; rw [← hw7]; exact Below.drewN HBL.out _); clear hw7)
        go_ret
        exact ⟨by rw [HRE.out]; rfl, HB7.out⟩
      · have td : decide ((l : Int) < 201) = false := by simp; omega
        have HRE : Hid (rightL fs = false) := by show _ = _; unfold rightL; rw [HL.out, decide_eq_false hs]; simp
        clear hs
        go_wp2
        go_ret
        exact ⟨by rw [HRE.out]; rfl, HBL.out⟩
end Go.Proofs.YtfnkbpcimbldbaaDoor
