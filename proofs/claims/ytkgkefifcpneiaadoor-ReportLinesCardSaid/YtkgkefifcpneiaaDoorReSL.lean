/- Layer 33: ReportSums. -/
import Derived.Test.YtkgkefifcpneiaaDoorReEq
import Derived.Deep.CutRange
namespace Go.Proofs.YtkgkefifcpneiaaDoor
open Go.RowKit

theorem sumS_ok' {ps : List Pr} {l : Nat} (h : ps.length = l) : (sumS ps).Ok l := by
  have := sumS_ok ps l (by omega)
  rwa [List.take_of_length_le (by omega)] at this
theorem wpList_load_rowG {P : Program} {ops : Array Oper} {rest : List Oper} {op : Oper} {a : Act} {w : World} {Q : Exit → Act → World → Prop} (hw : Region.wanted op (yielded ops a.tmps) = true) (ty : TypeId) (x : Operand) (ho : op.op = .load ty x)
    (b : Nat) (hx : a.eval x = .pointer (some ⟨b, 0, none⟩)) (t : TypeId) (cs : Array Value) (d : TypeDesc) (hg : w.heap[b]? = some (.cells cs t (0, 0)))
    (hu : P.underlying ty = some d) (hd : (match d with | .struct _ | .array _ _ => true | _ => false) = true) (hi : (P.info? ty).map (·.size) = some cs.size)
    (h : wpList P ops Q rest (a.put op.dst (.agg cs)) w) : wpList P ops Q (op :: rest) a w :=
  wpList_step fun K hK => by
    rw [if_pos hw]
    have h9 := hK _ _ h
    unfold Oper.wp execOp
    simp only [ho, hx, Instr.loadAt, Instr.sureAddr, Sem.run_bind, Sem.run_pure, Result.andThen_ok, run_loadVar_row w b t ty cs (0, 0) d hg hu hd hi]
    exact h9
theorem cells_own33 {w : World} {base : Nat} {e : TypeId} {size : Nat} {A : Option Addr} {n c : Nat} {xs : List Value} (h : w.ownsRow base e size (.slice A n c) n xs) : Cells w w.heap.size A xs := fun hp => by
  obtain ⟨hlen, hor⟩ := h
  rcases hor with ⟨h1, h2⟩ | ⟨g, cap, cur, hv, _, hg, _, _, hcells⟩
  · subst h2; rw [Nat.zero_mul] at hlen; omega
  · injection hv with ha _ _
    refine ⟨g, 0, ha, (Array.getElem?_eq_some_iff.1 hg).1, fun j u hj => ?_⟩
    rw [Nat.zero_add, cell_of_row w g j _ _ _ hg]
    obtain ⟨_, ht⟩ := hcells
    rw [← ht, List.getElem?_take] at hj
    split at hj
    · rw [← Array.getElem?_toList]; exact hj
    · cases hj
theorem ownK_form33 {w : World} {base : Nat} {e : TypeId} {size n : Nat} {v : Value} {xs : List Value} (h : w.ownsRow base e size v n xs) : ∃ A c, v = .slice A n c := by
  rcases ownK_form h with ⟨rfl, rfl⟩ | ⟨g, c, rfl⟩
  · exact ⟨_, _, rfl⟩
  · exact ⟨_, _, rfl⟩
/-- Within the law: what Sum told, and the law's own summary. -/
structure LwW (W1 : World) (b5 b7 l : Nat) (S s : Sm) (W : World) : Prop where
  s5 : SmB W b5 l S
  s7 : SmB W b7 l s
  bl : Below W1.heap.size W1 W
theorem LwW.set {W1 W : World} {b5 b7 l i : Nat} {S s s' : Sm} {v : Value} (h : LwW W1 b5 b7 l S s W) (ne : b5 ≠ b7) (hb : W1.heap.size ≤ b7) (hs : SmB (W.setCell ⟨b7, i, none⟩ v) b7 l s') : LwW W1 b5 b7 l S s' (W.setCell ⟨b7, i, none⟩ v) :=
  ⟨((Mod.refl (oneB b7) W).set ⟨b7, i, none⟩ v (.inl rfl)).keep h.s5 ne, hs, h.bl.setCell hb _⟩
theorem LwW.drew {W1 W : World} {b5 b7 l : Nat} {S s : Sm} (h : LwW W1 b5 b7 l S s W) : LwW W1 b5 b7 l S s W.drew := ⟨h.s5, h.s7, h.bl.drew⟩
theorem LwW.drewN {W1 W : World} {b5 b7 l n : Nat} {S s : Sm} (h : LwW W1 b5 b7 l S s W) : LwW W1 b5 b7 l S s (W.drewN n) := ⟨h.s5, h.s7, Below.drewN h.bl n⟩
set_option maxRecDepth 100000 in
set_option maxHeartbeats 4000000 in
theorem reportsums_any (A : Option Addr) (l c : Nat) (ps : List Pr) (w : World) (hl : ps.length = l) (hc : ∀ p ∈ ps, p.came) (hb : Cells w w.heap.size A (prCells ps)) :
    Calls Tryd.prog 5 #[.slice A l c] w fun x w' => x = .returned (.bool true) ∧ Below w.heap.size w w' := by
  have HL := Lib.hid hl
  have HCM := Lib.hid hc
  have HP := Lib.hid hb
  clear hb hc
  go_enter Tryd.func5, Tryd.ntmps5
  go_wp2_with ((first
    | (go_at_call 14; refine (great33_any A l c ps w.heap.size w hl HP.out).mono ?_; rintro x w1 ⟨b, rfl, rfl, hg⟩; have HG := Lib.hid hg; clear hg)
    | (go_at_call 13; refine (lives33_any _).mono ?_; rintro x w8 ⟨rfl, hb8⟩; have HB8 := Lib.hid hb8; clear hb8)
    | (go_at_call 15; refine (parts33_any A l c ps w.heap.size w hl (by have := (HG.out (by simp_all only)).1; omega) (fun p hp => (HCM.out p hp).1) HP.out (Nat.le_refl _)).mono ?_; rintro x W1 ⟨v, u, rfl, ho1, ho2, hd, hb1⟩; obtain ⟨A1, c1, rfl⟩ := ownK_form33 ho1; obtain ⟨A2, c2, rfl⟩ := ownK_form33 ho2; have HC1 := Lib.hid (cells_own33 ho1); have HC2 := Lib.hid (cells_own33 ho2); have HB1 := Lib.hid hb1; clear ho1 ho2 hd hb1)
    | (go_at_call 19; refine (sum33_any A1 A2 l c1 c2 ps W1.heap.size W1 hl (by have := (HG.out (by simp_all only)).1; omega) (fun p hp => (HCM.out p hp).1) HC1.out HC2.out (Nat.le_refl _)).mono ?_; rintro x W2 ⟨rfl, hb2⟩; have HB2 := Lib.hid hb2; clear hb2)
    | (refine wpList_store_row rfl 55 (.tmp 5) (.tmp 22) rfl W2.heap.size rfl 55 (smCells 0 smZ).toArray (smCells l (sumS ps)).toArray rfl (heap_alloc_new W2 _) (by rw [sm_size (sumS_ok' hl)]; exact smInfo) (by rw [sm_size (sumS_ok' hl)]; rfl) (sm_one _ _) (fun W3 hW3 hM3 => ?_); have HW3 := Lib.hid hW3; have HM3 : Hid (Mod (oneB W2.heap.size) W2 W3) := ((Mod.refl _ W2).alloc _).then_ hM3; have HZ3 : Hid (W2.heap.size < W3.heap.size) := (Array.getElem?_eq_some_iff.1 hW3).1; clear hW3 hM3)
    | (refine wpList_store_row rfl 55 (.tmp 7) (.tmp 26) rfl W3.heap.size rfl 55 (smCells 0 smZ).toArray (smCells l smZ).toArray rfl (heap_alloc_new W3 _) smInfo rfl (sm_one _ _) (fun W4 hW4 hM4 => ?_); have HW4 := Lib.hid hW4; have HM4 : Hid (Mod (oneB W3.heap.size) W3 W4) := ((Mod.refl _ W3).alloc _).then_ hM4; clear hW4 hM4)))
  · go_ret
    exact ⟨rfl, HB8.out⟩
  have HM100 := Lib.hid (HG.out (by simp_all only)).1
  have HNE : Hid (W2.heap.size ≠ W3.heap.size) := by have := HZ3.out; show _ ≠ _; omega
  have HB3 : Hid (Below W1.heap.size W1 W3) := HM3.out.below HB2.out HB2.out.size (fun q hq => by have : q = W2.heap.size := hq; have := HB2.out.size; omega)
  have HB7 : Hid (W1.heap.size ≤ W3.heap.size) := HB3.out.size
  have HLW : Hid (LwW W1 W2.heap.size W3.heap.size l (sumS ps) smZ W4) := ⟨HM4.out.keep HW3.out HNE.out, HW4.out, HM4.out.below HB3.out HB7.out (fun q hq => by have : q = W3.heap.size := hq; have := HB7.out; omega)⟩
  clear HW3 HM3 HW4 HM4 HZ3 HB2 HB3 HP
  generalize W2.heap.size = b5 at *
  generalize W3.heap.size = b7 at *
  go_loopg [8] l (fun gk i wr => ∃ k : Nat, k + gk = l ∧ i = .int .i64 k ∧ LwW W1 b5 b7 l (sumS ps) (sumS (ps.take k)) wr)
  case atStart => exact ⟨0, by omega, rfl, HLW.out⟩
  case round =>
    obtain ⟨k, hk, rfl, hlw⟩ := hrel
    have HA := Lib.hid hlw
    clear hlw HLW
    by_cases h : k < l
    · obtain ⟨f, hx⟩ : ∃ x, ps[k]? = some x := ⟨_, List.getElem?_eq_getElem (by omega)⟩
      obtain ⟨b, o, rfl, hbB, hc⟩ := HC1.out (by rw [opC_len]; omega)
      obtain ⟨b2, o2, rfl, hbB2, hc2⟩ := HC2.out (by rw [anC_len]; omega)
      have HX := Lib.hid hx
      have HF := Lib.hid (HCM.out f (List.mem_of_getElem? hx))
      have HOP : Hid (∀ W, Below W1.heap.size W1 W → ∀ (r : Nat) (u : Value), f.op[r]? = some u → W.cell? ⟨b, o + k * 7 + r, none⟩ = some u) := fun W hW r u hu => by
        rw [Nat.add_assoc]
        exact (hW.cell (p := ⟨b, o + (k * 7 + r), none⟩) (by show b < W1.heap.size; omega)).trans (op_at hc hx hu)
      have HAN : Hid (∀ W, Below W1.heap.size W1 W → ∀ (r : Nat) (u : Value), f.an[r]? = some u → W.cell? ⟨b2, o2 + k * 7 + r, none⟩ = some u) := fun W hW r u hu => by
        rw [Nat.add_assoc]
        exact (hW.cell (p := ⟨b2, o2 + (k * 7 + r), none⟩) (by show b2 < W1.heap.size; omega)).trans (an_at hc2 hx hu)
      have hki : (k : Int) < (l : Int) := by omega
      have hw1 : IntKind.i64.wrap ((k : Int) + 1) = (k : Int) + 1 := IntWalk.i64_in _ (by have := HM100.out; omega)
      have HK := Lib.hid (sumS_ok ps k (by have := HL.out; omega))
      have HST := Lib.hid (sumS_snoc (ps.take k) f)
      rw [← takeP_snoc hx] at HST
      have hks : k ≤ 100 := by have := HM100.out; omega
      clear hc hx hbB hc2 hbB2
      generalize sumS (ps.take k) = s at *
      have c0 := HOP.out wr HA.out.bl 0 _ rfl
      rw [Nat.add_zero] at c0
      go_upto_region 10 with fail
      go_cut [43] from 27 to 109 (fun c wx => c = .bool (decide (f.kind < 1) || decide (18 < f.kind)) ∧ wx = wr)
      case first =>
        by_cases hk0 : f.kind < 1
        · have hd0 : decide (f.kind < 1) = true := decide_eq_true hk0
          go_wp2_with fail
          go_meet
          case rel => exact ⟨by rw [hd0]; rfl, rfl⟩
        · have hd0 : decide (f.kind < 1) = false := decide_eq_false hk0
          by_cases hk1 : 18 < f.kind
          · have hd1 : decide (18 < f.kind) = true := decide_eq_true hk1
            go_wp2_with fail
            go_meet
            case rel => exact ⟨by rw [hd0, hd1]; rfl, rfl⟩
          · have hd1 : decide (18 < f.kind) = false := decide_eq_false hk1
            go_wp2_with fail
            go_meet
            case rel => exact ⟨by rw [hd0, hd1]; rfl, rfl⟩
      case rest =>
      obtain ⟨rfl, rfl⟩ := hcut
      go_upto_if 43 with fail
      go_cut [9, 43] from 27 to 109 (fun q _ wx => q = .int .i64 (kix f.kind) ∧ wx = wc)
      case first =>
        by_cases hk0 : f.kind < 1 ∨ 18 < f.kind
        · have hd : (decide (f.kind < 1) || decide (18 < f.kind)) = true := by simpa using hk0
          have hx : kix f.kind = 0 := by rw [kix_def]; split <;> omega
          rw [hd]
          go_wp2_with fail
          go_meet
          case rel => exact ⟨by rw [hx]; rfl, rfl⟩
        · have hd : (decide (f.kind < 1) || decide (18 < f.kind)) = false := by simpa using hk0
          have hx : (kix f.kind : Int) = f.kind := by rw [kix_def, if_pos (by omega)]; omega
          rw [hd]
          go_wp2_with fail
          go_meet
          case rel => exact ⟨by rw [hx], rfl⟩
      case rest =>
      obtain ⟨rfl, rfl⟩ := hcut
      have HQ := Lib.hid (kix_lt f.kind)
      clear c0
      go_upto_region 12 with fail
      go_cut [9] from 27 to 109 (fun _ wx => LwW W1 b5 b7 l (sumS ps) { s with ks := inc s.ks (kix f.kind) } wx)
      case first =>
        have c4 := sm_ks HA.out.s7 (i := kix f.kind) (by rw [HK.out.kl]; exact HQ.out)
        have f4 := sm_free HA.out.s7 (4 + kix f.kind)
        have hx : s.ks.getD (kix f.kind) 0 ≤ k := by
          have hi : kix f.kind < s.ks.length := by rw [HK.out.kl]; exact HQ.out
          exact HK.out.ks _ (by rw [List.getD_eq_getElem?_getD, List.getElem?_eq_getElem hi]; exact List.getElem_mem hi)
        have HS3 := Lib.hid (sm_setK HA.out.s7 (i := kix f.kind) (by rw [HK.out.kl]; exact HQ.out) (s.ks.getD (kix f.kind) 0 + 1))
        have hq := HQ.out
        unfold n33 at c4
        have HS4 : Hid (inc s.ks (kix f.kind) = s.ks.set (kix f.kind) (s.ks.getD (kix f.kind) 0 + 1)) := rfl
        generalize inc s.ks (kix f.kind) = ks' at *
        generalize s.ks.getD (kix f.kind) 0 = x at *
        generalize kix f.kind = q at *
        have hw : IntKind.i64.wrap ((x : Int) + 1) = ((x + 1 : Nat) : Int) := by rw [IntWalk.i64_in _ (by omega)]; omega
        have hqi : (q : Int) < 19 := by omega
        go_wp2_with fail
        go_meet
        case rel =>
          rw [HS4.out]
          exact HA.out.set HNE.out HB7.out HS3.out
      case rest =>
      have HA2 := Lib.hid hcut
      clear hcut HA
      have b0 := HAN.out wc HA2.out.bl 0 _ rfl
      rw [Nat.add_zero] at b0
      go_upto_region 13 with fail
      go_cut [64] from 27 to 109 (fun c wx => c = .bool (decide (0 ≤ f.e) && decide (f.e < 17)) ∧ wx = wc)
      case first =>
        by_cases hk0 : 0 ≤ f.e
        · have hd0 : decide (0 ≤ f.e) = true := decide_eq_true hk0
          by_cases hk1 : f.e < 17
          · have hd1 : decide (f.e < 17) = true := decide_eq_true hk1
            go_wp2_with fail
            go_meet
            case rel => exact ⟨by rw [hd0, hd1]; rfl, rfl⟩
          · have hd1 : decide (f.e < 17) = false := decide_eq_false hk1
            go_wp2_with fail
            go_meet
            case rel => exact ⟨by rw [hd0, hd1]; rfl, rfl⟩
        · have hd0 : decide (0 ≤ f.e) = false := decide_eq_false hk0
          go_wp2_with fail
          go_meet
          case rel => exact ⟨by rw [hd0]; rfl, rfl⟩
      case rest =>
      obtain ⟨rfl, rfl⟩ := hcut
      have HE : Hid (∀ e, incE s.es e = if 0 ≤ e ∧ e < 17 then inc s.es e.toNat else s.es) := fun _ => rfl
      go_upto_if 64 with fail
      go_cut [64] from 27 to 109 (fun _ wx => LwW W1 b5 b7 l (sumS ps) { s with ks := inc s.ks (kix f.kind), es := incE s.es f.e } wx)
      case first =>
        by_cases hk0 : 0 ≤ f.e ∧ f.e < 17
        · have hd : (decide (0 ≤ f.e) && decide (f.e < 17)) = true := by simpa using hk0
          have hx : incE s.es f.e = s.es.set f.e.toNat (s.es.getD f.e.toNat 0 + 1) := by rw [HE.out, if_pos hk0]; rfl
          have hq : (f.e.toNat : Int) = f.e := by omega
          have hi : f.e.toNat < s.es.length := by rw [HK.out.el]; omega
          have hk19 : (inc s.ks (kix f.kind)).length = 19 := by rw [inc_length]; exact HK.out.kl
          have c4 := sm_es HA2.out.s7 hk19 (i := f.e.toNat) hi
          have f4 := sm_free HA2.out.s7 (23 + f.e.toNat)
          have hxm : s.es.getD f.e.toNat 0 ≤ k := HK.out.es _ (by rw [List.getD_eq_getElem?_getD, List.getElem?_eq_getElem hi]; exact List.getElem_mem hi)
          have HS3 := Lib.hid (sm_setE HA2.out.s7 hk19 (i := f.e.toNat) (s.es.getD f.e.toNat 0 + 1))
          have HX2 := Lib.hid hx
          have hqi : f.e < 17 := hk0.2
          have hq0 : 0 ≤ f.e := hk0.1
          unfold n33 at c4
          dsimp only at c4
          generalize s.es.getD f.e.toNat 0 = x at *
          rw [hd]
          have hw : IntKind.i64.wrap ((x : Int) + 1) = ((x + 1 : Nat) : Int) := by rw [IntWalk.i64_in _ (by omega)]; omega
          clear hx hi hk19
          go_wp2_with fail
          go_meet
          case rel =>
            rw [HX2.out]
            exact HA2.out.set HNE.out HB7.out HS3.out
        · have hd : (decide (0 ≤ f.e) && decide (f.e < 17)) = false := by simpa using hk0
          have hx : incE s.es f.e = s.es := by rw [HE.out, if_neg hk0]
          rw [hd]
          go_wp2_with fail
          go_meet
          case rel =>
            rw [hx]
            exact HA2.out
      case rest =>
      have HA3 := Lib.hid hcut
      clear hcut HA2 b0
      have b5' := HAN.out wc HA3.out.bl 5 _ rfl
      go_upto_if 80 with fail
      go_cut [80] from 27 to 109 (fun _ wx => LwW W1 b5 b7 l (sumS ps) { s with rf := if f.rf then s.rf + 1 else s.rf, ks := inc s.ks (kix f.kind), es := incE s.es f.e } wx)
      case first =>
        have c1 := (sm_pre HA3.out.s7).2.1
        have f1 := sm_free HA3.out.s7 1
        unfold n33 at c1
        have hw : IntKind.i64.wrap ((s.rf : Int) + 1) = ((s.rf + 1 : Nat) : Int) := by have := HK.out.rf; rw [IntWalk.i64_in _ (by omega)]; omega
        by_cases hr : f.rf = true
        · rw [hr]
          go_wp2_with fail
          go_meet
          case rel =>
            rw [hr]
            exact HA3.out.set HNE.out HB7.out (sm_set1 HA3.out.s7 _)
        · have hr : f.rf = false := by simpa using hr
          rw [hr]
          go_wp2_with fail
          go_meet
          case rel =>
            rw [hr]
            exact HA3.out
      case rest =>
      have HA4 := Lib.hid hcut
      clear hcut HA3 b5'
      have b6' := HAN.out wc HA4.out.bl 6 _ rfl
      go_upto_if 89 with fail
      go_cut [89] from 27 to 109 (fun _ wx => LwW W1 b5 b7 l (sumS ps) { s with rf := if f.rf then s.rf + 1 else s.rf, po := if f.po then s.po + 1 else s.po, ks := inc s.ks (kix f.kind), es := incE s.es f.e } wx)
      case first =>
        have c1 := (sm_pre HA4.out.s7).2.2.1
        have f1 := sm_free HA4.out.s7 2
        unfold n33 at c1
        have hw : IntKind.i64.wrap ((s.po : Int) + 1) = ((s.po + 1 : Nat) : Int) := by have := HK.out.po; rw [IntWalk.i64_in _ (by omega)]; omega
        by_cases hr : f.po = true
        · rw [hr]
          go_wp2_with fail
          go_meet
          case rel =>
            rw [hr]
            exact HA4.out.set HNE.out HB7.out (sm_set2 HA4.out.s7 _)
        · have hr : f.po = false := by simpa using hr
          rw [hr]
          go_wp2_with fail
          go_meet
          case rel =>
            rw [hr]
            exact HA4.out
      case rest =>
      have HA5 := Lib.hid hcut
      clear hcut HA4 b6'
      go_upto_region 19 with fail
      go_cut [102] from 27 to 109 (fun c wx => c = .bool (decide (s.mo < f.dl)) ∧ LwW W1 b5 b7 l (sumS ps) { s with rf := if f.rf then s.rf + 1 else s.rf, po := if f.po then s.po + 1 else s.po, ks := inc s.ks (kix f.kind), es := incE s.es f.e } wx)
      case first =>
        have b1 := HAN.out wc HA5.out.bl 1 _ rfl
        have c3 := (sm_pre HA5.out.s7).2.2.2
        unfold n33 at c3
        go_region
        all_goals
          go_wp2_with fail
          go_meet
        all_goals
          refine ⟨rfl, ?_⟩
          first | exact HA5.out.drew | exact HA5.out.drewN
      case rest =>
      obtain ⟨rfl, hlw⟩ := hcut
      have HA6 := Lib.hid hlw
      clear hlw HA5
      have b1 := HAN.out wc HA6.out.bl 1 _ rfl
      have f3 := sm_free HA6.out.s7 3
      have c3 := (sm_pre HA6.out.s7).2.2.2
      unfold n33 at c3
      have HMX : Hid (∀ x, x = max s.mo f.dl → s.step f = { s with rf := if f.rf then s.rf + 1 else s.rf, po := if f.po then s.po + 1 else s.po, mo := x, ks := inc s.ks (kix f.kind), es := incE s.es f.e }) := fun x hx => by rw [hx]; rfl
      by_cases hr : s.mo < f.dl
      · rw [decide_eq_true hr]
        go_wp2_with fail
        go_roundg (gk - 1)
        case measure => omega
        case rel =>
          refine ⟨k + 1, by omega, by go_num, ?_⟩
          rw [HST.out, HMX.out f.dl (by omega)]
          exact HA6.out.set HNE.out HB7.out (sm_set3 HA6.out.s7 _)
      · rw [decide_eq_false hr]
        go_wp2_with fail
        go_roundg (gk - 1)
        case measure => omega
        case rel =>
          refine ⟨k + 1, by omega, by go_num, ?_⟩
          rw [HST.out, HMX.out s.mo (by omega)]
          exact HA6.out
    · obtain rfl : k = l := by omega
      have ht : ps.take k = ps := List.take_of_length_le (by have := HL.out; omega)
      rw [ht] at HA
      have hok := sumS_ok' HL.out
      have HSZ := Lib.hid (sm_size (n := k) hok)
      have heq := sm_eq (l := k) hok
      have heg : Tryd.prog.eqGuardType Tryd.prog.depth 55 = false := by kernel_rfl
      go_wp2_with ((first
        | (refine wpList_load_rowG (by rfl) 55 (.tmp 5) rfl b5 rfl 55 _ _ HA.out.s5 Tryd.underlying55 rfl (by rw [HSZ.out]; exact smInfo) ?_)
        | (refine wpList_load_rowG (by rfl) 55 (.tmp 7) rfl b7 rfl 55 _ _ HA.out.s7 Tryd.underlying55 rfl (by rw [HSZ.out]; exact smInfo) ?_)
        | (go_at_call 13; refine (lives33_any _).mono ?_; rintro x w8 ⟨rfl, hb8⟩; have HB8 := Lib.hid (HA.out.bl.trans (hb8.mono HA.out.bl.size)); clear hb8)))
      go_ret
      exact ⟨rfl, HB1.out.trans (HB8.out.mono HB1.out.size)⟩
theorem reportsums_in (a : Option Addr) (len cap : Nat) (w : World) (h : Lies w (.slice prSh) [.slice a len cap]) : Calls Tryd.prog 5 #[.slice a len cap] w fun x w' => x = .returned (.bool true) ∧ Below w.heap.size w w' := by
  obtain ⟨ps, h1, _, h3, h4⟩ := prs_in h
  exact reportsums_any a len cap ps w h1 h4 h3
end Go.Proofs.YtkgkefifcpneiaaDoor
