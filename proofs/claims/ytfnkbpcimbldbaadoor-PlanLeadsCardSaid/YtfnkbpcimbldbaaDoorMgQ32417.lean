/- Layer 25: are files too many, too great; are files alike. -/
import Derived.Test.YtfnkbpcimbldbaaDoorMgQ324SFiP
import Derived.Test.YtfnkbpcimbldbaaDoorRows
import Derived.Test.YtfnkbpcimbldbaaDoorMgQ32406
import Derived.WalkMore
import Derived.Deep.Cut
import Derived.Deep.DeepCutAuto
import Derived.Deep.LoopGhost
import Derived.BigQuiet
import Derived.RegionTactic
import Derived.Test.YtfnkbpcimbldbaaDoorQuietF
namespace Go.Proofs.YtfnkbpcimbldbaaDoor
open Go.RowKit

theorem strF_any (w : World) (A : Option Addr) (l c B : Nat) (bs : List UInt8) (h : Bytes w B A bs) (hl : bs.length = l) : (convert 30 9 (.slice A l c)).run Tryd.prog w = .ok (.string ⟨bs.toArray⟩) w :=
  run_string_of (P := Tryd.prog) (w := w) (B := B) (A := A) (l := l) (bs := bs) (c := c) 30 9 5 Tryd.underlying30 Tryd.underlying5 Tryd.underlying9 h hl
/-- What counts of a file. -/
def Fi.key (f : Fi) : ByteArray × List UInt8 := (f.nm, f.data)
/-- Are files alike? -/
def eqF (fs gs : List Fi) : Bool := decide (fs.map Fi.key = gs.map Fi.key)
theorem eqF_no {fs gs : List Fi} {k : Nat} {x y : Fi} (hx : fs[k]? = some x) (hy : gs[k]? = some y) (h : x.key ≠ y.key) : eqF fs gs = false := by
  unfold eqF
  refine decide_eq_false (fun e => h ?_)
  have h1 : (fs.map Fi.key)[k]? = (gs.map Fi.key)[k]? := by rw [e]
  rw [List.getElem?_map, List.getElem?_map, hx, hy] at h1
  injection h1
theorem eqF_len {fs gs : List Fi} (h : fs.length ≠ gs.length) : eqF fs gs = false := by
  unfold eqF
  refine decide_eq_false (fun e => h ?_)
  have := congrArg List.length e
  simpa using this
theorem takeF_snoc {l : List Fi} {k : Nat} {x : Fi} (h : l[k]? = some x) : l.take (k + 1) = l.take k ++ [x] := by rw [List.take_add_one, h]; rfl
theorem ba_inj {a b : List UInt8} (h : (⟨a.toArray⟩ : ByteArray) = ⟨b.toArray⟩) : a = b := by
  have : (⟨a.toArray⟩ : ByteArray).data.toList = (⟨b.toArray⟩ : ByteArray).data.toList := by rw [h]
  simpa using this
set_option maxRecDepth 100000 in
set_option maxHeartbeats 2000000 in
theorem refSame25_any (A : Option Addr) (l c : Nat) (C : Option Addr) (l2 c2 : Nat) (fs gs : List Fi) (B : Nat) (w : World) (hl : fs.length = l) (hl2 : gs.length = l2) (hm : l ≤ 1000000) (hb : Files w B A fs) (hb2 : Files w B C gs) :
    Calls Tryd.prog 19 #[.slice A l c, .slice C l2 c2] w fun e w' => e = .returned (.bool (eqF fs gs)) ∧ ∃ n, w.drewN n = w' := by
  by_cases hne : l = l2
  · subst hne
    have HF := Lib.hid hb
    have HG := Lib.hid hb2
    have HL := Lib.hid hl
    have HL2 := Lib.hid hl2
    clear hb hb2 hl hl2
    go_enter Tryd.func19, Tryd.ntmps19
    go_wp2
    go_loopg [5] l (fun gk i wr => ∃ (k n : Nat), k + gk = l ∧ i = .int .i64 k ∧ wr = w.drewN n ∧ (fs.take k).map Fi.key = (gs.take k).map Fi.key)
    case atStart => exact ⟨0, 0, by omega, rfl, rfl, rfl⟩
    case round =>
      obtain ⟨k, n, hk, rfl, hwr, heq⟩ := hrel
      have HW := Lib.hid hwr
      have HE := Lib.hid heq
      clear heq
      by_cases h : k < l
      · obtain ⟨x, hx⟩ : ∃ x, fs[k]? = some x := ⟨_, List.getElem?_eq_getElem (by have := HL.out; omega)⟩
        obtain ⟨y, hy⟩ : ∃ y, gs[k]? = some y := ⟨_, List.getElem?_eq_getElem (by have := HL2.out; omega)⟩
        obtain ⟨b, o, rfl, _, hc⟩ := HF.out.row (by rw [fi_len]; have := HL.out; omega)
        obtain ⟨b2, o2, rfl, _, hc2⟩ := HG.out.row (by rw [fi_len]; have := HL2.out; omega)
        obtain ⟨p0, p1⟩ := fi_at hc hx
        obtain ⟨q0, q1⟩ := fi_at hc2 hy
        have c0 : wr.cell? ⟨b, o + k * 2, none⟩ = some (.string x.nm) := by rw [hwr]; exact p0
        have c1 : wr.cell? ⟨b, o + k * 2 + 1, none⟩ = some (.slice x.ad x.data.length x.cp) := by rw [hwr]; exact p1
        have d0 : wr.cell? ⟨b2, o2 + k * 2, none⟩ = some (.string y.nm) := by rw [hwr]; exact q0
        have d1 : wr.cell? ⟨b2, o2 + k * 2 + 1, none⟩ = some (.slice y.ad y.data.length y.cp) := by rw [hwr]; exact q1
        have hki : (k : Int) < (l : Int) := by omega
        have hw1 : IntKind.i64.wrap ((k : Int) + 1) = (k : Int) + 1 := IntWalk.i64_in _ (by omega)
        have HBX := Lib.hid (HF.out.each x (List.mem_of_getElem? hx)).1
        have HBY := Lib.hid (HG.out.each y (List.mem_of_getElem? hy)).1
        clear hc hc2 p0 p1 q0 q1
        have k1 := strF_any wr x.ad x.data.length x.cp B x.data (by rw [hwr]; exact HBX.out.drewN' n) rfl
        have k2 := strF_any wr y.ad y.data.length y.cp B y.data (by rw [hwr]; exact HBY.out.drewN' n) rfl
        have HBXR : Hid (Bytes wr B x.ad x.data) := by show Bytes _ _ _ _; rw [hwr]; exact HBX.out.drewN' n
        have HBYR : Hid (Bytes wr B y.ad y.data) := by show Bytes _ _ _ _; rw [hwr]; exact HBY.out.drewN' n
        obtain ⟨sx, hsx⟩ : ∃ sx, (⟨x.data.toArray⟩ : ByteArray) = sx := ⟨_, rfl⟩
        obtain ⟨sy, hsy⟩ : ∃ sy, (⟨y.data.toArray⟩ : ByteArray) = sy := ⟨_, rfl⟩
        rw [hsx] at k1
        rw [hsy] at k2
        by_cases hn : x.nm = y.nm
        · have hn2 : x.nm.toList = y.nm.toList := by rw [hn]
          have hn3 : (x.nm.toList == y.nm.toList) = true := by rw [hn]; simp
          by_cases hd : x.data = y.data
          · have hs1 : sx = sy := by rw [← hsx, ← hsy, hd]
            have HNX : Hid (((fs.take (k + 1)).map Fi.key) = ((gs.take (k + 1)).map Fi.key)) := by
              show _ = _
              rw [takeF_snoc hx, takeF_snoc hy, List.map_append, List.map_append, HE.out]
              simp [Fi.key, hn, hd]
            have HSX := Lib.hid hsx
            have HSY := Lib.hid hsy
            have hs2 : sx.toList = sy.toList := by rw [hs1]
            have hs3 : (sx.toList == sy.toList) = true := by rw [hs1]; simp
            clear hx hy hwr hn hd hsx hsy hs1 k1 k2
            go_wp2_with fail
            obtain ⟨fw, hfw⟩ : ∃ fw : Nat → World, ∀ n, fw n = wr.drewN n := ⟨_, fun _ => rfl⟩
            have HFW := Lib.hid hfw
            have c0 : ∀ n, (fw n).cell? ⟨b, o + k * 2, none⟩ = some (.string x.nm) := fun n => by rw [hfw]; exact c0
            have c1 : ∀ n, (fw n).cell? ⟨b, o + k * 2 + 1, none⟩ = some (.slice x.ad x.data.length x.cp) := fun n => by rw [hfw]; exact c1
            have d0 : ∀ n, (fw n).cell? ⟨b2, o2 + k * 2, none⟩ = some (.string y.nm) := fun n => by rw [hfw]; exact d0
            have d1 : ∀ n, (fw n).cell? ⟨b2, o2 + k * 2 + 1, none⟩ = some (.slice y.ad y.data.length y.cp) := fun n => by rw [hfw]; exact d1
            have k1 : ∀ n, (convert 30 9 (.slice x.ad x.data.length x.cp)).run Tryd.prog (fw n) = .ok (.string sx) (fw n) := fun n => by rw [hfw, ← HSX.out]; exact strF_any _ x.ad x.data.length x.cp B x.data (HBXR.out.drewN' n) rfl
            have k2 : ∀ n, (convert 30 9 (.slice y.ad y.data.length y.cp)).run Tryd.prog (fw n) = .ok (.string sy) (fw n) := fun n => by rw [hfw, ← HSY.out]; exact strF_any _ y.ad y.data.length y.cp B y.data (HBYR.out.drewN' n) rfl
            have h01 : fw 1 = wr.drew := hfw 1
            clear hfw
            refine region_quiet_f fw 1 h01 (by kernel_rfl) (by kernel_rfl) ?_
            repeat (go_big_quiet_step (fail))
            refine wpQuiet_nil ?_
            rintro _ ⟨nq, rfl⟩
            have HWN : Hid (fw nq = wr.drewN nq) := HFW.out nq
            generalize fw nq = w5 at *
            clear c0 c1 d0 d1 k1 k2 h01 HFW
            go_wp2
            go_roundg (gk - 1)
            case measure => omega
            case rel => exact ⟨k + 1, _, by omega, by go_num, by rw [HWN.out, HW.out]; exact World.drewN_drewN .., HNX.out⟩
          · have hs3 : (sx.toList == sy.toList) = false := by rw [nmEq_dec]; exact decide_eq_false (fun e => hd (ba_inj (by rw [hsx, hsy]; exact e)))
            have hs2 : ¬ sx.toList = sy.toList := by rw [← beq_iff_eq, hs3]; decide
            have HNO : Hid (eqF fs gs = false) := eqF_no hx hy (fun e => hd (Prod.mk.inj e).2)
            have HSX := Lib.hid hsx
            have HSY := Lib.hid hsy
            clear hx hy hwr hn hd hsx hsy k1 k2
            go_wp2_with fail
            obtain ⟨fw, hfw⟩ : ∃ fw : Nat → World, ∀ n, fw n = wr.drewN n := ⟨_, fun _ => rfl⟩
            have HFW := Lib.hid hfw
            have c0 : ∀ n, (fw n).cell? ⟨b, o + k * 2, none⟩ = some (.string x.nm) := fun n => by rw [hfw]; exact c0
            have c1 : ∀ n, (fw n).cell? ⟨b, o + k * 2 + 1, none⟩ = some (.slice x.ad x.data.length x.cp) := fun n => by rw [hfw]; exact c1
            have d0 : ∀ n, (fw n).cell? ⟨b2, o2 + k * 2, none⟩ = some (.string y.nm) := fun n => by rw [hfw]; exact d0
            have d1 : ∀ n, (fw n).cell? ⟨b2, o2 + k * 2 + 1, none⟩ = some (.slice y.ad y.data.length y.cp) := fun n => by rw [hfw]; exact d1
            have k1 : ∀ n, (convert 30 9 (.slice x.ad x.data.length x.cp)).run Tryd.prog (fw n) = .ok (.string sx) (fw n) := fun n => by rw [hfw, ← HSX.out]; exact strF_any _ x.ad x.data.length x.cp B x.data (HBXR.out.drewN' n) rfl
            have k2 : ∀ n, (convert 30 9 (.slice y.ad y.data.length y.cp)).run Tryd.prog (fw n) = .ok (.string sy) (fw n) := fun n => by rw [hfw, ← HSY.out]; exact strF_any _ y.ad y.data.length y.cp B y.data (HBYR.out.drewN' n) rfl
            have h01 : fw 1 = wr.drew := hfw 1
            clear hfw
            refine region_quiet_f fw 1 h01 (by kernel_rfl) (by kernel_rfl) ?_
            repeat (go_big_quiet_step (fail))
            refine wpQuiet_nil ?_
            rintro _ ⟨nq, rfl⟩
            have HWN : Hid (fw nq = wr.drewN nq) := HFW.out nq
            generalize fw nq = w5 at *
            clear c0 c1 d0 d1 k1 k2 h01 HFW
            go_wp2
            go_ret
            exact ⟨by rw [HNO.out]; rfl, _, by rw [HWN.out, HW.out]; exact (World.drewN_drewN ..).symm⟩
        · have hn3 : (x.nm.toList == y.nm.toList) = false := by rw [nmEq_dec]; exact decide_eq_false hn
          have hn2 : ¬ x.nm.toList = y.nm.toList := by rw [← beq_iff_eq, hn3]; decide
          have HNO : Hid (eqF fs gs = false) := eqF_no hx hy (fun e => hn (Prod.mk.inj e).1)
          clear hx hy hwr hn hsx hsy k1 k2
          go_wp2
          go_quiet (fail)
          go_wp2
          go_ret
          exact ⟨by rw [HNO.out]; rfl, _, by rw [HW.out]; exact (World.drewN_drewN ..).symm⟩
      · obtain rfl : k = l := by omega
        have HYS : Hid (eqF fs gs = true) := by
          have h1 := HE.out
          rw [List.take_of_length_le (by have := HL.out; omega), List.take_of_length_le (by have := HL2.out; omega)] at h1
          exact decide_eq_true h1
        clear hwr
        go_wp2
        go_ret
        exact ⟨by rw [HYS.out]; rfl, n, HW.out.symm⟩
  · have HNO : Hid (eqF fs gs = false) := eqF_len (by rw [hl, hl2]; exact hne)
    have hnei : ¬ ((l : Int) = (l2 : Int)) := by omega
    clear hb hb2
    go_enter Tryd.func19, Tryd.ntmps19
    go_wp2
    go_ret
    exact ⟨by rw [HNO.out]; rfl, 0, rfl⟩
end Go.Proofs.YtfnkbpcimbldbaaDoor
/- Layer 25: model.Same. -/
namespace Go.Proofs.YtfnkbpcimbldbaaDoor
open Go.RowKit

set_option maxHeartbeats 1000000 in
theorem equalB_any (A C : Option Addr) (l c l2 c2 B : Nat) (xs ys : List UInt8) (w : World) (hl : xs.length = l) (hl2 : ys.length = l2) (hb : Bytes w B A xs) (hb2 : Bytes w B C ys) :
    Calls Tryd.prog 41 #[.slice A l c, .slice C l2 c2] w fun e w' => e = .returned (.bool (decide (xs = ys))) ∧ w = w' := by
  have k1 := strF_any w A l c B xs hb hl
  have k2 := strF_any w C l2 c2 B ys hb2 hl2
  obtain ⟨sx, hsx⟩ : ∃ sx, (⟨xs.toArray⟩ : ByteArray) = sx := ⟨_, rfl⟩
  obtain ⟨sy, hsy⟩ : ∃ sy, (⟨ys.toArray⟩ : ByteArray) = sy := ⟨_, rfl⟩
  rw [hsx] at k1
  rw [hsy] at k2
  by_cases hd : xs = ys
  · have hs1 : sx = sy := by rw [← hsx, ← hsy, hd]
    have HD : Hid (decide (xs = ys) = true) := decide_eq_true hd
    subst hs1
    clear hsx hsy hd hb hb2 hl hl2
    go_enter Tryd.func41, Tryd.ntmps41
    go_wp2
    go_ret
    exact ⟨by rw [HD.out]; simp, rfl⟩
  · have hs3 : (sx.toList == sy.toList) = false := by rw [nmEq_dec]; exact decide_eq_false (fun e => hd (ba_inj (by rw [hsx, hsy]; exact e)))
    have hs2 : ¬ sx.toList = sy.toList := by rw [← beq_iff_eq, hs3]; decide
    have HD : Hid (decide (xs = ys) = false) := decide_eq_false hd
    clear hsx hsy hd hb hb2 hl hl2
    go_enter Tryd.func41, Tryd.ntmps41
    go_wp2
    go_ret
    exact ⟨by rw [HD.out]; simp, rfl⟩
end Go.Proofs.YtfnkbpcimbldbaaDoor
