/- Layer 38: the reference: Like. -/
import Derived.Test.YtfnkbpcimbldbaaDoorMgQ14029
import Derived.Test.YtfnkbpcimbldbaaDoorMgQ14019
import Derived.Test.YtfnkbpcimbldbaaDoorMgQ14024
namespace Go.Proofs.YtfnkbpcimbldbaaDoor
open Go.RowKit

theorem findF_cases (fs : List Fi) (s : ByteArray) (hr : Ris Fi.nm fs) : (findF fs s = -1 ∧ findK Fi.nm fs s = none) ∨ ∃ (k : Nat) (x : Fi), findF fs s = (k : Int) ∧ fs[k]? = some x ∧ findK Fi.nm fs s = some x := by
  unfold findF
  cases h : hasK Fi.nm fs s with
  | false => exact .inl ⟨rfl, findK_not h⟩
  | true =>
    obtain ⟨x, hx, e⟩ := hasK_there hr h
    exact .inr ⟨posK Fi.nm fs s, x, rfl, hx, findK_there hr hx e⟩
set_option maxRecDepth 100000 in
set_option maxHeartbeats 2000000 in
theorem like_any (A : Option Addr) (l c : Nat) (C : Option Addr) (l2 c2 : Nat) (fs gs : List Fi) (s : ByteArray) (B : Nat) (w : World) (hl : fs.length = l) (hl2 : gs.length = l2) (hm : l ≤ 1000000) (hm2 : l2 ≤ 1000000) (hr : Ris Fi.nm fs) (hr2 : Ris Fi.nm gs) (hb : Files w B A fs) (hb2 : Files w B C gs) :
    Calls Tryd.prog 29 #[.slice A l c, .slice C l2 c2, .string s] w fun e w' => e = .returned (.bool (decide ((findK Fi.nm fs s).map Fi.data = (findK Fi.nm gs s).map Fi.data))) ∧ ∃ n, w.drewN n = w' := by
  have H1 := Lib.hid (refFind25_any A l c fs s B w hl hm hr hb)
  have H2 := Lib.hid (refFind25_any C l2 c2 gs s B w hl2 hm2 hr2 hb2)
  rcases findF_cases fs s hr with ⟨e1, e2⟩ | ⟨k, x, e1, hx, e2⟩
  · rcases findF_cases gs s hr2 with ⟨e3, e4⟩ | ⟨k2, y, e3, hy, e4⟩
    · rw [e2, e4]
      rw [e1] at H1
      rw [e3] at H2
      clear hl hl2 hb hb2 hr hr2 e1 e2 e3 e4
      go_enter Tryd.func29, Tryd.ntmps29
      go_wp2_with (first | (go_at_call_of 28 (Value.slice A l c); refine H1.out.mono ?_; rintro e w2 ⟨rfl, rfl⟩) | (go_at_call 28; refine H2.out.mono ?_; rintro e w2 ⟨rfl, rfl⟩))
      go_ret
      exact ⟨by simp, 0, rfl⟩
    · rw [e2, e4]
      rw [e1] at H1
      rw [e3] at H2
      have t2 : ¬ ((k2 : Int) < 0) := by omega
      clear hl hl2 hb hb2 hr hr2 e1 e2 e3 e4 hy
      go_enter Tryd.func29, Tryd.ntmps29
      go_wp2_with (first | (go_at_call_of 28 (Value.slice A l c); refine H1.out.mono ?_; rintro e w2 ⟨rfl, rfl⟩) | (go_at_call 28; refine H2.out.mono ?_; rintro e w2 ⟨rfl, rfl⟩))
      go_ret
      exact ⟨by simp, 0, rfl⟩
  · have t1 : ¬ ((k : Int) < 0) := by omega
    rcases findF_cases gs s hr2 with ⟨e3, e4⟩ | ⟨k2, y, e3, hy, e4⟩
    · rw [e2, e4]
      rw [e1] at H1
      rw [e3] at H2
      clear hl hl2 hb hb2 hr hr2 e1 e2 e3 e4 hx
      go_enter Tryd.func29, Tryd.ntmps29
      go_wp2_with (first | (go_at_call_of 28 (Value.slice A l c); refine H1.out.mono ?_; rintro e w2 ⟨rfl, rfl⟩) | (go_at_call 28; refine H2.out.mono ?_; rintro e w2 ⟨rfl, rfl⟩))
      go_ret
      exact ⟨by simp, 0, rfl⟩
    · rw [e2, e4]
      rw [e1] at H1
      rw [e3] at H2
      have t2 : ¬ ((k2 : Int) < 0) := by omega
      have hkl := (List.getElem?_eq_some_iff.1 hx).1
      have hkl2 := (List.getElem?_eq_some_iff.1 hy).1
      obtain ⟨b, o, rfl, _, hc⟩ := hb.row (by rw [fi_len]; omega)
      obtain ⟨b2, o2, rfl, _, hc2⟩ := hb2.row (by rw [fi_len]; omega)
      have p1 := (fi_at hc hx).2
      have q1 := (fi_at hc2 hy).2
      have hki : (k : Int) < (l : Int) := by omega
      have hki2 : (k2 : Int) < (l2 : Int) := by omega
      have HBX := Lib.hid (hb.each x (List.mem_of_getElem? hx)).1
      have HBY := Lib.hid (hb2.each y (List.mem_of_getElem? hy)).1
      obtain ⟨sx, hsx⟩ : ∃ sx, (⟨x.data.toArray⟩ : ByteArray) = sx := ⟨_, rfl⟩
      obtain ⟨sy, hsy⟩ : ∃ sy, (⟨y.data.toArray⟩ : ByteArray) = sy := ⟨_, rfl⟩
      have HSX := Lib.hid hsx
      have HSY := Lib.hid hsy
      have hs3 : (sx.toList == sy.toList) = decide (x.data = y.data) := by
        rw [nmEq_dec]
        exact decide_eq_decide.2 ⟨fun e => ba_inj (by rw [hsx, hsy]; exact e), fun e => by rw [← hsx, ← hsy, e]⟩
      have HRS : Hid (decide ((some x).map Fi.data = (some y).map Fi.data) = (sx.toList == sy.toList)) := by
        show _ = _
        rw [hs3]
        exact decide_eq_decide.2 ⟨fun h => by injection h, fun h => by show some x.data = some y.data; rw [h]⟩
      rw [HRS.out]
      clear hl hl2 hb hb2 hr hr2 e1 e2 e3 e4 hx hy hc hc2 hkl hkl2 hsx hsy hs3 HRS
      go_enter Tryd.func29, Tryd.ntmps29
      go_wp2_with (first | (go_at_call_of 28 (Value.slice (some ⟨b, o, none⟩) l c); refine H1.out.mono ?_; rintro e w2 ⟨rfl, rfl⟩) | (go_at_call 28; refine H2.out.mono ?_; rintro e w2 ⟨rfl, rfl⟩))
      obtain ⟨fw, hfw⟩ : ∃ fw : Nat → World, ∀ n, fw n = w.drewN n := ⟨_, fun _ => rfl⟩
      have HFW := Lib.hid hfw
      have d1 : ∀ n, (fw n).cell? ⟨b, o + k * 2 + 1, none⟩ = some (.slice x.ad x.data.length x.cp) := fun n => by rw [hfw]; exact p1
      have d2 : ∀ n, (fw n).cell? ⟨b2, o2 + k2 * 2 + 1, none⟩ = some (.slice y.ad y.data.length y.cp) := fun n => by rw [hfw]; exact q1
      have g1 : ∀ n, (convert 30 9 (.slice x.ad x.data.length x.cp)).run Tryd.prog (fw n) = .ok (.string sx) (fw n) := fun n => by rw [hfw, ← HSX.out]; exact strF_any _ x.ad x.data.length x.cp B x.data (HBX.out.drewN' n) rfl
      have g2 : ∀ n, (convert 30 9 (.slice y.ad y.data.length y.cp)).run Tryd.prog (fw n) = .ok (.string sy) (fw n) := fun n => by rw [hfw, ← HSY.out]; exact strF_any _ y.ad y.data.length y.cp B y.data (HBY.out.drewN' n) rfl
      have h01 : fw 1 = w.drew := hfw 1
      clear hfw p1 q1
      refine region_quiet_f fw 1 h01 (by kernel_rfl) (by kernel_rfl) ?_
      repeat (go_big_quiet_step (fail))
      refine wpQuiet_nil ?_
      rintro _ ⟨nq, rfl⟩
      have HWN : Hid (fw nq = w.drewN nq) := HFW.out nq
      generalize fw nq = w5 at *
      clear d1 d2 g1 g2 h01 HFW
      go_wp2
      go_ret
      exact ⟨rfl, nq, HWN.out.symm⟩
end Go.Proofs.YtfnkbpcimbldbaaDoor
