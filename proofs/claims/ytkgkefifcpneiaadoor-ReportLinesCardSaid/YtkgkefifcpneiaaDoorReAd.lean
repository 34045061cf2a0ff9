/- Layer 33: add. -/
import Derived.Test.YtkgkefifcpneiaaDoorReS
import Derived.Deep.CutRange
import Derived.StillTailTactics
namespace Go.Proofs.YtkgkefifcpneiaaDoor
open Go.RowKit

/-- Within add: the summary's block, and the boxes of the step and its answer. -/
structure AdW (w : World) (g n : Nat) (s : Sm) (p : Pr) (W : World) : Prop where
  sm : SmB W g n s
  op : W.heap[w.heap.size]? = some (.cells #[.int .i64 p.kind, .string p.name, p.o2, p.o3, p.o4, p.o5, p.o6] 36 (0, 0))
  an : W.heap[w.heap.size + 1]? = some (.cells #[.int .i64 p.e, .slice p.ad p.dl p.dc, p.a2, p.a3, p.a4, .bool p.rf, .bool p.po] 47 (0, 0))
  md : Mod (oneB g) w W
theorem AdW.set {w W : World} {g n : Nat} {s s' : Sm} {p : Pr} {i : Nat} {v : Value} (h : AdW w g n s p W) (hg : g < w.heap.size) (hs : SmB (W.setCell ⟨g, i, none⟩ v) g n s') : AdW w g n s' p (W.setCell ⟨g, i, none⟩ v) :=
  ⟨hs, by
    have := (Mod.refl (oneB g) W).set ⟨g, i, none⟩ v (.inl rfl)
    exact this.keep h.op (fun e => by have : w.heap.size = g := e; omega), by
    have := (Mod.refl (oneB g) W).set ⟨g, i, none⟩ v (.inl rfl)
    exact this.keep h.an (fun e => by have : w.heap.size + 1 = g := e; omega), h.md.set ⟨g, i, none⟩ v (.inl rfl)⟩
theorem AdW.drew {w W : World} {g n : Nat} {s : Sm} {p : Pr} (h : AdW w g n s p W) : AdW w g n s p W.drew := ⟨h.sm, h.op, h.an, h.md.drew⟩
set_option maxRecDepth 100000 in
set_option maxHeartbeats 2000000 in
theorem add33_any (g n : Nat) (s : Sm) (m : Nat) (p : Pr) (w : World) (hs : SmB w g n s) (hk : s.Ok m) (hm : m ≤ 1000) :
    Calls Tryd.prog 33 #[.pointer (some ⟨g, 0, none⟩), .agg #[.int .i64 p.kind, .string p.name, p.o2, p.o3, p.o4, p.o5, p.o6], .agg #[.int .i64 p.e, .slice p.ad p.dl p.dc, p.a2, p.a3, p.a4, .bool p.rf, .bool p.po]] w fun e w' => e = .returned (.tuple #[]) ∧ SmB w' g n (s.step p) ∧ Mod (oneB g) w w' := by
  have HK := Lib.hid hk
  have hg : g < w.heap.size := (Array.getElem?_eq_some_iff.1 hs).1
  have HS := Lib.hid hs
  have HG := Lib.hid hg
  clear hk hs
  go_enter Tryd.func33, Tryd.ntmps33
  go_upto_if 8 with fail
  go_cut [2] from 7 to 72 (fun _ wx => AdW w g n { s with rf := if p.rf then s.rf + 1 else s.rf } p wx)
  case first =>
    have HA : Hid (AdW w g n s p ((w.alloc (.cells #[.int .i64 p.kind, .string p.name, p.o2, p.o3, p.o4, p.o5, p.o6] 36)).alloc (.cells #[.int .i64 p.e, .slice p.ad p.dl p.dc, p.a2, p.a3, p.a4, .bool p.rf, .bool p.po] 47))) :=
      ⟨(((Mod.refl noB w).alloc _).alloc _).keep HS.out (fun h => h), ((Mod.refl noB (w.alloc _)).alloc _).keep (heap_alloc_new w _) (fun h => h), by have := heap_alloc_new (w.alloc (.cells #[.int .i64 p.kind, .string p.name, p.o2, p.o3, p.o4, p.o5, p.o6] 36)) (.cells #[.int .i64 p.e, .slice p.ad p.dl p.dc, p.a2, p.a3, p.a4, .bool p.rf, .bool p.po] 47); rwa [show (w.alloc (.cells #[.int .i64 p.kind, .string p.name, p.o2, p.o3, p.o4, p.o5, p.o6] 36)).heap.size = w.heap.size + 1 from Array.size_push ..] at this, ((Mod.refl _ w).alloc _).alloc _⟩
    generalize ((w.alloc (.cells #[.int .i64 p.kind, .string p.name, p.o2, p.o3, p.o4, p.o5, p.o6] 36)).alloc (.cells #[.int .i64 p.e, .slice p.ad p.dl p.dc, p.a2, p.a3, p.a4, .bool p.rf, .bool p.po] 47)) = W at *
    have c1 := (sm_pre HA.out.sm).2.1
    have f1 := sm_free HA.out.sm 1
    unfold n33 at c1
    have hw : IntKind.i64.wrap ((s.rf : Int) + 1) = ((s.rf + 1 : Nat) : Int) := by have := HK.out.rf; rw [IntWalk.i64_in _ (by omega)]; omega
    by_cases hr : p.rf = true
    · rw [hr]
      go_wp2_with fail
      go_meet
      case rel =>
        rw [hr]
        exact HA.out.set HG.out (sm_set1 HA.out.sm _)
    · have hr : p.rf = false := by simpa using hr
      rw [hr]
      go_wp2_with fail
      go_meet
      case rel =>
        rw [hr]
        exact HA.out
  case rest =>
  have HA1 := Lib.hid hcut
  clear hcut
  have b6 := cell_of_row _ _ 6 _ _ _ HA1.out.an
  go_upto_if 17 with fail
  go_cut [2] from 7 to 72 (fun _ wx => AdW w g n { s with rf := if p.rf then s.rf + 1 else s.rf, po := if p.po then s.po + 1 else s.po } p wx)
  case first =>
    have c1 := (sm_pre HA1.out.sm).2.2.1
    have f1 := sm_free HA1.out.sm 2
    unfold n33 at c1
    have hw : IntKind.i64.wrap ((s.po : Int) + 1) = ((s.po + 1 : Nat) : Int) := by have := HK.out.po; rw [IntWalk.i64_in _ (by omega)]; omega
    by_cases hr : p.po = true
    · rw [hr]
      go_wp2_with fail
      go_meet
      case rel =>
        rw [hr]
        exact HA1.out.set HG.out (sm_set2 HA1.out.sm _)
    · have hr : p.po = false := by simpa using hr
      rw [hr]
      go_wp2_with fail
      go_meet
      case rel =>
        rw [hr]
        exact HA1.out
  case rest =>
  have HA2 := Lib.hid hcut
  clear hcut HA1 b6
  go_upto_region 5 with fail
  go_cut [2] from 7 to 72 (fun _ wx => AdW w g n { s with rf := if p.rf then s.rf + 1 else s.rf, po := if p.po then s.po + 1 else s.po, mo := max s.mo p.dl } p wx)
  case first =>
    have b1 := cell_of_row _ _ 1 _ _ _ HA2.out.an
    have c3 := (sm_pre HA2.out.sm).2.2.2
    have f3 := sm_free HA2.out.sm 3
    unfold n33 at c3
    go_still_tail 11, (by kernel_rfl)
    go_wp2_with fail
    go_meet
    case rel =>
      have hx : ((max s.mo p.dl : Nat) : Int) = max (s.mo : Int) (p.dl : Int) := by omega
      rw [← hx]
      exact (HA2.out.drew.set HG.out (sm_set3 HA2.out.drew.sm _))
  case rest =>
  have HA3 := Lib.hid hcut
  clear hcut HA2
  have a0 := cell_of_row _ _ 0 _ _ _ HA3.out.op
  go_upto_region 7 with fail
  go_cut [43] from 7 to 72 (fun c wx => c = .bool (decide (p.kind < 0) || decide (19 ≤ p.kind)) ∧ wx = wc)
  case first =>
    by_cases hk0 : p.kind < 0
    · have hd0 : decide (p.kind < 0) = true := decide_eq_true hk0
      go_wp2_with fail
      go_meet
      case rel => exact ⟨by rw [hd0]; rfl, rfl⟩
    · have hd0 : decide (p.kind < 0) = false := decide_eq_false hk0
      by_cases hk1 : 19 ≤ p.kind
      · have hd1 : decide (19 ≤ p.kind) = true := decide_eq_true hk1
        go_wp2_with fail
        go_meet
        case rel => exact ⟨by rw [hd0, hd1]; rfl, rfl⟩
      · have hd1 : decide (19 ≤ p.kind) = false := decide_eq_false hk1
        go_wp2_with fail
        go_meet
        case rel => exact ⟨by rw [hd0, hd1]; rfl, rfl⟩
  case rest =>
  obtain ⟨rfl, rfl⟩ := hcut
  go_upto_if 43 with fail
  go_cut [6, 43] from 7 to 72 (fun k _ wx => k = .int .i64 (kix p.kind) ∧ wx = wc)
  case first =>
    by_cases hk0 : p.kind < 0 ∨ 19 ≤ p.kind
    · have hd : (decide (p.kind < 0) || decide (19 ≤ p.kind)) = true := by simpa using hk0
      have hx : kix p.kind = 0 := by rw [kix_def]; exact if_neg (by omega)
      rw [hd]
      go_wp2_with fail
      go_meet
      case rel => exact ⟨by rw [hx]; rfl, rfl⟩
    · have hd : (decide (p.kind < 0) || decide (19 ≤ p.kind)) = false := by simpa using hk0
      have hx : (kix p.kind : Int) = p.kind := by rw [kix_def, if_pos (by omega)]; omega
      rw [hd]
      go_wp2_with fail
      go_meet
      case rel => exact ⟨by rw [hx], rfl⟩
  case rest =>
  obtain ⟨rfl, rfl⟩ := hcut
  have HQ := Lib.hid (kix_lt p.kind)
  go_upto_region 9 with fail
  go_cut [2, 6] from 7 to 72 (fun _ _ wx => AdW w g n { s with rf := if p.rf then s.rf + 1 else s.rf, po := if p.po then s.po + 1 else s.po, mo := max s.mo p.dl, ks := inc s.ks (kix p.kind) } p wx)
  case first =>
    have c4 := sm_ks HA3.out.sm (i := kix p.kind) (by show _ < s.ks.length; rw [HK.out.kl]; exact HQ.out)
    have f4 := sm_free HA3.out.sm (4 + kix p.kind)
    have hx : s.ks.getD (kix p.kind) 0 ≤ m := by
      have hi : kix p.kind < s.ks.length := by rw [HK.out.kl]; exact HQ.out
      exact HK.out.ks _ (by rw [List.getD_eq_getElem?_getD, List.getElem?_eq_getElem hi]; exact List.getElem_mem hi)
    have HS3 := Lib.hid (sm_setK HA3.out.drew.sm (i := kix p.kind) (by show _ < s.ks.length; rw [HK.out.kl]; exact HQ.out) (s.ks.getD (kix p.kind) 0 + 1))
    have hq := HQ.out
    unfold n33 at c4
    have HS4 : Hid (inc s.ks (kix p.kind) = s.ks.set (kix p.kind) (s.ks.getD (kix p.kind) 0 + 1)) := rfl
    dsimp only at c4
    generalize inc s.ks (kix p.kind) = ks' at *
    generalize s.ks.getD (kix p.kind) 0 = x at *
    generalize kix p.kind = q at *
    have hw : IntKind.i64.wrap ((x : Int) + 1) = ((x + 1 : Nat) : Int) := by rw [IntWalk.i64_in _ (by omega)]; omega
    have hqi : (q : Int) < 19 := by omega
    go_still_tail 10, (by kernel_rfl)
    go_wp2_with fail
    go_meet
    case rel =>
      rw [HS4.out]
      exact HA3.out.drew.set HG.out HS3.out
  case rest =>
  have HA4 := Lib.hid hcut
  clear hcut HA3 a0 HQ
  have HE : Hid (∀ e, incE s.es e = if 0 ≤ e ∧ e < 17 then inc s.es e.toNat else s.es) := fun _ => rfl
  have b0 := cell_of_row _ _ 0 _ _ _ HA4.out.an
  go_upto_region 10 with fail
  go_cut [61] from 7 to 72 (fun c wx => c = .bool (decide (0 ≤ p.e) && decide (p.e < 17)) ∧ wx = wc)
  case first =>
    by_cases hk0 : 0 ≤ p.e
    · have hd0 : decide (0 ≤ p.e) = true := decide_eq_true hk0
      by_cases hk1 : p.e < 17
      · have hd1 : decide (p.e < 17) = true := decide_eq_true hk1
        go_wp2_with fail
        go_meet
        case rel => exact ⟨by rw [hd0, hd1]; rfl, rfl⟩
      · have hd1 : decide (p.e < 17) = false := decide_eq_false hk1
        go_wp2_with fail
        go_meet
        case rel => exact ⟨by rw [hd0, hd1]; rfl, rfl⟩
    · have hd0 : decide (0 ≤ p.e) = false := decide_eq_false hk0
      go_wp2_with fail
      go_meet
      case rel => exact ⟨by rw [hd0]; rfl, rfl⟩
  case rest =>
  obtain ⟨rfl, rfl⟩ := hcut
  by_cases hk0 : 0 ≤ p.e ∧ p.e < 17
  · have hd : (decide (0 ≤ p.e) && decide (p.e < 17)) = true := by simpa using hk0
    have hx : incE s.es p.e = s.es.set p.e.toNat (s.es.getD p.e.toNat 0 + 1) := by rw [HE.out, if_pos hk0]; rfl
    have hq : (p.e.toNat : Int) = p.e := by omega
    have hi : p.e.toNat < s.es.length := by rw [HK.out.el]; omega
    have c4 := sm_es HA4.out.sm (by show (inc s.ks _).length = 19; rw [inc_length]; exact HK.out.kl) (i := p.e.toNat) hi
    have f4 := sm_free HA4.out.sm (23 + p.e.toNat)
    have hxm : s.es.getD p.e.toNat 0 ≤ m := HK.out.es _ (by rw [List.getD_eq_getElem?_getD, List.getElem?_eq_getElem hi]; exact List.getElem_mem hi)
    have HS3 := Lib.hid (sm_setE HA4.out.drew.sm (by show (inc s.ks _).length = 19; rw [inc_length]; exact HK.out.kl) (i := p.e.toNat) (s.es.getD p.e.toNat 0 + 1))
    have HX := Lib.hid hx
    have hqi : p.e < 17 := hk0.2
    have hq0 : 0 ≤ p.e := hk0.1
    unfold n33 at c4
    dsimp only at c4
    generalize s.es.getD p.e.toNat 0 = x at *
    rw [hd]
    have hw : IntKind.i64.wrap ((x : Int) + 1) = ((x + 1 : Nat) : Int) := by rw [IntWalk.i64_in _ (by omega)]; omega
    clear hx hi
    go_upto_region 11 with fail
    go_still_tail 11, (by kernel_rfl)
    go_wp2_with fail
    go_end0
    refine ⟨rfl, ?_, HA4.out.md.drew.set _ _ (.inl rfl)⟩
    have h := HS3.out
    rw [← HX.out] at h
    exact h
  · have hd : (decide (0 ≤ p.e) && decide (p.e < 17)) = false := by simpa using hk0
    have hx : incE s.es p.e = s.es := by rw [HE.out, if_neg hk0]
    rw [hd]
    go_wp2_with fail
    go_end0
    refine ⟨rfl, ?_, HA4.out.md⟩
    have h := HA4.out.sm
    unfold Sm.step
    rw [hx]
    exact h
end Go.Proofs.YtkgkefifcpneiaaDoor
