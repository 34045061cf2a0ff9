/- Layer 38: Right of both. -/
import Derived.Test.YtfnkbpcimbldbaaDoorMgQ14032
import Derived.Test.YtfnkbpcimbldbaaDoorMgQ140SMemR
import Derived.Test.YtfnkbpcimbldbaaDoorMgQ140SRef15
namespace Go.Proofs.YtfnkbpcimbldbaaDoor
open Go.RowKit

end Go.Proofs.YtfnkbpcimbldbaaDoor
/- Layer 38: the reference: Diff, Same of steps. -/
namespace Go.Proofs.YtfnkbpcimbldbaaDoor
open Go.RowKit

theorem ol_at {w : World} {b o : Nat} {os : List OL} {k : Nat} {f : OL} (hc : ∀ j u, (olCells os)[j]? = some u → w.cell? ⟨b, o + j, none⟩ = some u) (h : os[k]? = some f) :
    w.cell? ⟨b, o + k * 7, none⟩ = some (.int .i64 f.kd) ∧ w.cell? ⟨b, o + k * 7 + 1, none⟩ = some (.string f.nm) ∧ w.cell? ⟨b, o + k * 7 + 2, none⟩ = some (.slice f.ad f.data.length f.cp) ∧ w.cell? ⟨b, o + k * 7 + 3, none⟩ = some (.int .i64 0) ∧ w.cell? ⟨b, o + k * 7 + 4, none⟩ = some (.slice none 0 0) ∧ w.cell? ⟨b, o + k * 7 + 5, none⟩ = some (.int .i64 0) ∧ w.cell? ⟨b, o + k * 7 + 6, none⟩ = some (.int .u8 0) := by
  have key : ∀ (r : Nat) (u : Value), f.cells[r]? = some u → w.cell? ⟨b, o + (k * 7 + r), none⟩ = some u := fun r u hu => hc _ _ (code_at (rs := os) (code := OL.cells) (s := 7) (fun _ _ => rfl) h hu)
  have k0 := key 0 _ rfl
  have k1 := key 1 _ rfl
  have k2 := key 2 _ rfl
  have k3 := key 3 _ rfl
  have k4 := key 4 _ rfl
  have k5 := key 5 _ rfl
  have k6 := key 6 _ rfl
  simp only [← Nat.add_assoc, Nat.add_zero] at k0 k1 k2 k3 k4 k5 k6
  exact ⟨k0, k1, k2, k3, k4, k5, k6⟩
def goneO (b : List Fi) (x : Fi) : List OL := if findF b x.nm < 0 then [⟨11, x.nm, [], none, 0⟩] else []
def putO (a b : List Fi) (x : Fi) : List OL := if (findK Fi.nm a x.nm).map Fi.data = (findK Fi.nm b x.nm).map Fi.data then [] else [⟨3, x.nm, x.data, x.ad, x.cp⟩]
theorem goneO_len (b : List Fi) (x : Fi) : (goneO b x).length ≤ 1 := by unfold goneO; split <;> simp
theorem putO_len (a b : List Fi) (x : Fi) : (putO a b x).length ≤ 1 := by unfold putO; split <;> simp
theorem findF_neg (b : List Fi) (s : ByteArray) : findF b s < 0 ↔ (getK (b.map Fi.key) s).isNone = true := by
  rw [get_key]
  unfold findF
  cases h : hasK Fi.nm b s with
  | false => rw [findK_not h]; simp
  | true =>
    rw [if_pos rfl]
    have := findK_some (k := Fi.nm) (l := b) (s := s)
    rw [h] at this
    cases hf : findK Fi.nm b s with
    | none => rw [hf] at this; cases this
    | some x => simp
theorem goneO_flat (b : List Fi) : ∀ a : List Fi, (a.flatMap (goneO b)).map OL.po = (goneN (a.map Fi.key) (b.map Fi.key)).map fun n => ((11 : Int), n, ([] : List UInt8))
  | [] => rfl
  | x :: a => by
    rw [List.flatMap_cons, List.map_append, goneO_flat b a]
    unfold goneN goneO
    rw [List.map_cons, List.map_cons, List.filter_cons]
    show _ = List.map _ (if (getK (b.map Fi.key) x.nm).isNone = true then _ else _)
    by_cases h : findF b x.nm < 0
    · rw [if_pos h, if_pos ((findF_neg b x.nm).1 h)]
      rfl
    · rw [if_neg h, if_neg (fun e => h ((findF_neg b x.nm).2 e))]
      rfl
theorem putO_flat (a b : List Fi) (hr : Ris Fi.nm b) : ∀ l : List Fi, (∀ x ∈ l, x ∈ b) → (l.flatMap (putO a b)).map OL.po = ((l.map Fi.key).filter fun x => !decide (getK (a.map Fi.key) x.1 = some x.2)).map fun x => ((3 : Int), x.1, x.2)
  | [], _ => rfl
  | x :: l, h => by
    rw [List.flatMap_cons, List.map_append, putO_flat a b hr l (fun y hy => h y (List.mem_cons_of_mem _ hy)), List.map_cons, List.filter_cons]
    unfold putO
    rw [(find_mem hr).2 ⟨h x (List.mem_cons_self ..), rfl⟩]
    show _ = List.map _ (if (!decide (getK (a.map Fi.key) x.nm = some x.data)) = true then _ else _)
    rw [get_key]
    by_cases e : (findK Fi.nm a x.nm).map Fi.data = (some x).map Fi.data
    · rw [if_pos e, if_neg (by rw [decide_eq_true (show (findK Fi.nm a x.nm).map Fi.data = some x.data from e)]; simp)]
      rfl
    · rw [if_neg e, if_pos (by rw [decide_eq_false (show ¬ (findK Fi.nm a x.nm).map Fi.data = some x.data from e)]; rfl)]
      rfl
set_option maxRecDepth 100000 in
set_option maxHeartbeats 4000000 in
theorem refDiff_any (A1 A2 : Option Addr) (l1 c1 l2 c2 : Nat) (a b : List Fi) (B : Nat) (w : World) (hl1 : a.length = l1) (hl2 : b.length = l2) (hm1 : l1 ≤ 1000) (hm2 : l2 ≤ 1000) (ha : Ris Fi.nm a) (hb : Ris Fi.nm b) (hfa : Files w B A1 a) (hfb : Files w B A2 b) (hB : B ≤ w.heap.size) :
    Calls Tryd.prog 14 #[.slice A1 l1 c1, .slice A2 l2 c2] w fun e w' => ∃ A' c' os, e = .returned (.slice A' os.length c') ∧ os.map OL.po = diffL (a.map Fi.key) (b.map Fi.key) ∧ Ops w' w'.heap.size A' os ∧ Below w.heap.size w w' := by
  have HFA := Lib.hid hfa
  have HFB := Lib.hid hfb
  have HRA := Lib.hid ha
  have HRB := Lib.hid hb
  have HL1 := Lib.hid hl1
  have HL2 := Lib.hid hl2
  have HB := Lib.hid hB
  clear hfa hfb ha hb hl1 hl2 hB
  go_enter Tryd.func14, Tryd.ntmps14
  go_wp2
  go_loopg [5, 6] l1 (fun gk v i wr => ∃ (k : Nat) (Ao : Option Addr) (co : Nat) (os : List OL), k + gk = l1 ∧ v = .slice Ao os.length co ∧ i = .int .i64 (k : Int) ∧ os = (a.take k).flatMap (goneO b) ∧ wr.ownsRow w.heap.size 49 7 (.slice Ao os.length co) os.length (olCells os) ∧ Below w.heap.size w wr)
  case atStart => exact ⟨0, none, 0, [], by omega, rfl, rfl, rfl, World.ownsRow_nil _ _ _ _, Below.refl _ _⟩
  case round =>
    obtain ⟨k, Ao, co, os, hk, rfl, rfl, hos, hown, hbel⟩ := hrel
    have HOS := Lib.hid hos
    have HO := Lib.hid hown
    have HBL := Lib.hid hbel
    have hol : os.length ≤ 1000 := by
      rw [hos]
      exact Nat.le_trans (flat_len _ (fun x => goneO_len b x) _) (by rw [List.length_take]; omega)
    clear hos hown hbel
    by_cases h : k < l1
    · obtain ⟨x, hx⟩ : ∃ x, a[k]? = some x := ⟨_, List.getElem?_eq_getElem (by have := HL1.out; omega)⟩
      obtain ⟨bb, oo, hbo, _, hc⟩ := (HFA.out.below HBL.out HB.out).row (by rw [fi_len]; have := HL1.out; omega)
      have d0 := (fi_at hc hx).1
      have HBO := Lib.hid hbo
      rw [hbo]
      have hki : (k : Int) < (l1 : Int) := by omega
      have hw1 : IntKind.i64.wrap ((k : Int) + 1) = (k : Int) + 1 := IntWalk.i64_in _ (by omega)
      have HN : Hid ((a.take (k + 1)).flatMap (goneO b) = os ++ goneO b x) := by show _ = _; rw [flat_take _ hx, HOS.out]
      have HFN := Lib.hid (refFind25_any A2 l2 c2 b x.nm B wr HL2.out (by omega) HRB.out (HFB.out.below HBL.out HB.out))
      obtain ⟨q, hq⟩ : ∃ q, findF b x.nm = q := ⟨_, rfl⟩
      rw [hq] at HFN
      have HQ := Lib.hid hq
      clear hx hc hbo hq
      by_cases hq0 : q < 0
      · have HG : Hid (goneO b x = [⟨11, x.nm, [], none, 0⟩]) := if_pos (by rw [HQ.out]; exact hq0)
        go_wp2_with (first
          | (go_at_call 28; refine HFN.out.mono ?_; rintro e w9 ⟨rfl, rfl⟩)
          | (at_builtin; go_must (skip; refine wpList_app1 wr olElem rfl (.tmp 22) (.tmp 29) rfl w.heap.size (.slice Ao os.length co) os.length _ rfl HO.out #[.int .i64 11, .string x.nm, .slice none 0 0, .int .i64 0, .slice none 0 0, .int .i64 0, .int .u8 0] rfl rfl (by intro u hu; simp only [List.mem_cons, List.not_mem_nil, or_false] at hu; rcases hu with rfl | rfl | rfl | rfl | rfl | rfl | rfl <;> rfl) (by unfold maxLen; omega) (by omega) HBL.out.size ?_; intro A3 c3 w3 hA; have HA := Lib.hid hA; clear hA)))
        rw [← HBO.out]
        go_roundg (gk - 1)
        case measure => omega
        case rel =>
          refine ⟨k + 1, A3, c3, os ++ [⟨11, x.nm, [], none, 0⟩], by omega, by rw [List.length_append]; rfl, by go_num, by rw [HN.out, HG.out], ?_, HA.out.below HBL.out HBL.out.size (fun j hj => (HO.out.lt j hj).1)⟩
          rw [olCells_snoc, List.length_append]
          exact HA.out.own
      · have HG : Hid (goneO b x = []) := if_neg (by rw [HQ.out]; exact hq0)
        go_wp2_with (go_at_call 28; refine HFN.out.mono ?_; rintro e w9 ⟨rfl, rfl⟩)
        rw [← HBO.out]
        go_roundg (gk - 1)
        case measure => omega
        case rel => exact ⟨k + 1, Ao, co, os, by omega, rfl, by go_num, by rw [HN.out, HG.out, List.append_nil], HO.out, HBL.out⟩
    · obtain rfl : l1 = k := by omega
      have hki : ¬ (l1 : Int) < (l1 : Int) := by omega
      have HGS : Hid (os = a.flatMap (goneO b)) := by
        have := HOS.out
        rwa [List.take_of_length_le (by rw [HL1.out]; exact Nat.le_refl _)] at this
      clear HOS hk
      have HO0 := HO
      have HBL0 := HBL
      go_wp2
      go_loopg [5, 7] l2 (fun gk v i wr => ∃ (k : Nat) (Ao : Option Addr) (co : Nat) (ps : List OL), k + gk = l2 ∧ v = .slice Ao ps.length co ∧ i = .int .i64 (k : Int) ∧ ps = os ++ (b.take k).flatMap (putO a b) ∧ wr.ownsRow w.heap.size 49 7 (.slice Ao ps.length co) ps.length (olCells ps) ∧ Below w.heap.size w wr)
      case atStart => exact ⟨0, Ao, co, os, by omega, rfl, rfl, by rw [List.take_zero]; simp, HO0.out, HBL0.out⟩
      case round =>
        clear HO HBL HO0 HBL0
        obtain ⟨k, Ao, co, ps, hk, rfl, rfl, hps, hown, hbel⟩ := hrel
        have HPS := Lib.hid hps
        have HO := Lib.hid hown
        have HBL := Lib.hid hbel
        have hpl : ps.length ≤ 2000 := by
          rw [hps, List.length_append]
          have := Nat.le_trans (flat_len _ (fun x => putO_len a b x) (b.take k)) (by rw [List.length_take]; exact Nat.min_le_right _ _)
          have := HL2.out
          omega
        clear hps hown hbel
        by_cases h2 : k < l2
        · obtain ⟨x, hx⟩ : ∃ x, b[k]? = some x := ⟨_, List.getElem?_eq_getElem (by have := HL2.out; omega)⟩
          have HCX : Hid (∃ bb oo, A2 = some ⟨bb, oo, none⟩ ∧ ∀ V, Below w.heap.size w V → V.cell? ⟨bb, oo + k * 2, none⟩ = some (.string x.nm) ∧ V.cell? ⟨bb, oo + k * 2 + 1, none⟩ = some (.slice x.ad x.data.length x.cp)) := by
            obtain ⟨b', o', e, _, _⟩ := HFB.out.row (by rw [fi_len]; have := HL2.out; omega)
            refine ⟨b', o', e, fun V hV => ?_⟩
            obtain ⟨b2, o2, e', _, hc2⟩ := (HFB.out.below hV HB.out).row (by rw [fi_len]; have := HL2.out; omega)
            rw [e] at e'
            injection e' with e'
            injection e' with q1 q2 q3
            subst q1 q2
            exact fi_at hc2 hx
          obtain ⟨bb, oo, hbo, hcx⟩ := HCX.out
          have HCV := Lib.hid hcx
          obtain ⟨d0, d1⟩ := hcx wr HBL.out
          have HBO := Lib.hid hbo
          have HLK := Lib.hid (likeB_any A1 l1 c1 A2 l2 c2 a b x.nm B wr HL1.out HL2.out (by omega) (by omega) HRA.out HRB.out (HFA.out.below HBL.out HB.out) (HFB.out.below HBL.out HB.out))
          rw [hbo] at HLK
          rw [hbo]
          have hki2 : (k : Int) < (l2 : Int) := by omega
          have hw1 : IntKind.i64.wrap ((k : Int) + 1) = (k : Int) + 1 := IntWalk.i64_in _ (by omega)
          have HN : Hid (os ++ (b.take (k + 1)).flatMap (putO a b) = ps ++ putO a b x) := by show _ = _; rw [flat_take _ hx, HPS.out, List.append_assoc]
          clear hx hbo hcx HCX
          by_cases hq : (findK Fi.nm a x.nm).map Fi.data = (findK Fi.nm b x.nm).map Fi.data
          · have HG : Hid (putO a b x = []) := if_pos hq
            rw [decide_eq_true hq] at HLK
            clear hq
            go_wp2_with (go_at_call 29; refine HLK.out.mono ?_; rintro e w3 ⟨rfl, hb3⟩; have HB3 := Lib.hid hb3; clear hb3)
            rw [← HBO.out]
            go_roundg (gk - 1)
            case measure => omega
            case rel => exact ⟨k + 1, Ao, co, ps, by omega, rfl, by go_num, by rw [HN.out, HG.out, List.append_nil], own_keep HO.out (Mod.of_below HB3.out) (fun _ _ e => e.elim), HBL.out.trans (HB3.out.mono HBL.out.size)⟩
          · have HG : Hid (putO a b x = [⟨3, x.nm, x.data, x.ad, x.cp⟩]) := if_neg hq
            rw [decide_eq_false hq] at HLK
            clear hq
            go_wp2_with (go_at_call 29; refine HLK.out.mono ?_; rintro e w3 ⟨rfl, hb3⟩; have HB3 := Lib.hid (HBL.out.trans (hb3.mono HBL.out.size)); have HO3 := Lib.hid (own_keep HO.out (Mod.of_below hb3) (fun _ _ e => e.elim)); clear hb3)
            obtain ⟨e0, e1⟩ := HCV.out w3 HB3.out
            clear d0 d1
            go_region_law (refine step_app1 w3 olElem (by rfl) (.tmp 46) (.tmp 58) (by rfl) w.heap.size (.slice Ao ps.length co) ps.length (olCells ps) (by rfl) HO3.out #[.int .i64 3, .string x.nm, .slice x.ad x.data.length x.cp, .int .i64 0, .slice none 0 0, .int .i64 0, .int .u8 0] (by rfl) (by rfl) (by intro u hu; simp only [List.mem_cons, List.not_mem_nil, or_false] at hu; rcases hu with rfl | rfl | rfl | rfl | rfl | rfl | rfl <;> rfl) (by unfold maxLen; omega) (by omega) HB3.out.size ?_; intro A6 c6 w6 hA; have HA := Lib.hid hA; clear hA)
            all_goals
              go_wp2
              rw [← HBO.out]
              go_roundg (gk - 1)
              case measure => omega
              case rel =>
                refine ⟨k + 1, A6, c6, ps ++ [⟨3, x.nm, x.data, x.ad, x.cp⟩], by omega, by rw [List.length_append]; rfl, by go_num, by rw [HN.out, HG.out], ?_, HA.out.below HB3.out HB3.out.size (fun j hj => (HO3.out.lt j hj).1)⟩
                rw [olCells_snoc, List.length_append]
                exact HA.out.own
        · obtain rfl : l2 = k := by omega
          have hki2 : ¬ (l2 : Int) < (l2 : Int) := by omega
          have HPE : Hid (ps = a.flatMap (goneO b) ++ b.flatMap (putO a b)) := by
            have := HPS.out
            rwa [List.take_of_length_le (by rw [HL2.out]; exact Nat.le_refl _), HGS.out] at this
          go_wp2
          go_ret
          refine ⟨Ao, co, ps, rfl, ?_, ⟨cells_of_ownF HO.out, fun o ho => ?_⟩, HBL.out⟩
          · rw [HPE.out, List.map_append, goneO_flat, putO_flat a b HRB.out b (fun _ h => h)]
            rfl
          · rw [HPE.out] at ho
            rcases List.mem_append.1 ho with ho | ho
            · obtain ⟨x, _, hx⟩ := List.mem_flatMap.1 ho
              unfold goneO at hx
              split at hx
              · rw [List.mem_singleton] at hx
                subst hx
                exact ⟨fun hp => absurd hp (by unfold byteCells; simp), Nat.le_refl _⟩
              · cases hx
            · obtain ⟨x, hxb, hx⟩ := List.mem_flatMap.1 ho
              unfold putO at hx
              split at hx
              · cases hx
              · rw [List.mem_singleton] at hx
                subst hx
                have := (HFB.out.below HBL.out HB.out).each x hxb
                exact ⟨this.1.more (Nat.le_trans HB.out HBL.out.size), this.2⟩
set_option maxRecDepth 100000 in
set_option maxHeartbeats 4000000 in
theorem refSame38_any (A : Option Addr) (c : Nat) (C : Option Addr) (c2 l : Nat) (os ps : List OL) (B : Nat) (w : World) (hl : os.length = l) (hm : l ≤ 1000000) (he : os.map OL.po = ps.map OL.po) (hb : Ops w B A os) (hb2 : Ops w B C ps) :
    Calls Tryd.prog 12 #[.slice A l c, .slice C l c2] w fun e w' => e = .returned (.bool true) ∧ ∃ n, w.drewN n = w' := by
  have hl2 : ps.length = l := by
    have h1 := congrArg List.length he
    rw [List.length_map, List.length_map] at h1
    omega
  have HF := Lib.hid hb
  have HG := Lib.hid hb2
  have HL := Lib.hid hl
  have HL2 := Lib.hid hl2
  have HE := Lib.hid he
  clear hb hb2 hl hl2 he
  go_enter Tryd.func12, Tryd.ntmps12
  go_wp2
  go_loopg [5] l (fun gk i wr => ∃ (k n : Nat), k + gk = l ∧ i = .int .i64 (k : Int) ∧ wr = w.drewN n)
  case atStart => exact ⟨0, 0, by omega, rfl, rfl⟩
  case round =>
    obtain ⟨k, n, hk, rfl, hwr⟩ := hrel
    have HW := Lib.hid hwr
    by_cases h : k < l
    · obtain ⟨x, hx⟩ : ∃ x, os[k]? = some x := ⟨_, List.getElem?_eq_getElem (by have := HL.out; omega)⟩
      obtain ⟨y, hy⟩ : ∃ y, ps[k]? = some y := ⟨_, List.getElem?_eq_getElem (by have := HL2.out; omega)⟩
      have hxy : x.po = y.po := by
        have h1 : (os.map OL.po)[k]? = (ps.map OL.po)[k]? := by rw [HE.out]
        rw [List.getElem?_map, List.getElem?_map, hx, hy] at h1
        injection h1
      have hxy := hxy
      unfold OL.po at hxy
      simp only [Prod.mk.injEq] at hxy
      obtain ⟨e1, e2, e3⟩ := hxy
      obtain ⟨b, o, rfl, _, hc⟩ := HF.out.row (by rw [ol_len]; have := HL.out; omega)
      obtain ⟨b2, o2, rfl, _, hc2⟩ := HG.out.row (by rw [ol_len]; have := HL2.out; omega)
      obtain ⟨p0, p1, p2, p3, p4, p5, p6⟩ := ol_at hc hx
      obtain ⟨q0, q1, q2, _, _, _, _⟩ := ol_at hc2 hy
      rw [← e1] at q0
      rw [← e2] at q1
      have hki : (k : Int) < (l : Int) := by omega
      have hw1 : IntKind.i64.wrap ((k : Int) + 1) = (k : Int) + 1 := IntWalk.i64_in _ (by omega)
      have HBX := Lib.hid (HF.out.each x (List.mem_of_getElem? hx)).1
      have HBY := Lib.hid (HG.out.each y (List.mem_of_getElem? hy)).1
      obtain ⟨sx, hsx⟩ : ∃ sx, (⟨x.data.toArray⟩ : ByteArray) = sx := ⟨_, rfl⟩
      have HSX := Lib.hid hsx
      have HE3 := Lib.hid e3
      have hs1 : (sx.toList == sx.toList) = true := by simp
      obtain ⟨nm, hnm⟩ : ∃ nm, x.nm = nm := ⟨_, rfl⟩
      rw [hnm] at p1 q1
      have hs2 : (nm.toList == nm.toList) = true := by simp
      obtain ⟨kd, hkd⟩ : ∃ kd, x.kd = kd := ⟨_, rfl⟩
      rw [hkd] at p0 q0
      clear hx hy hc hc2 e1 e2 e3 hsx hnm hkd hwr
      go_wp2_with fail
      obtain ⟨fw, hfw⟩ : ∃ fw : Nat → World, ∀ n, fw n = wr.drewN n := ⟨_, fun _ => rfl⟩
      have HFW := Lib.hid hfw
      have r0 : ∀ n, (fw n).cell? ⟨b, o + k * 7, none⟩ = some (.int .i64 kd) := fun n => by rw [hfw, HW.out]; exact p0
      have r1 : ∀ n, (fw n).cell? ⟨b, o + k * 7 + 1, none⟩ = some (.string nm) := fun n => by rw [hfw, HW.out]; exact p1
      have r2 : ∀ n, (fw n).cell? ⟨b, o + k * 7 + 2, none⟩ = some (.slice x.ad x.data.length x.cp) := fun n => by rw [hfw, HW.out]; exact p2
      have r3 : ∀ n, (fw n).cell? ⟨b, o + k * 7 + 3, none⟩ = some (.int .i64 0) := fun n => by rw [hfw, HW.out]; exact p3
      have r4 : ∀ n, (fw n).cell? ⟨b, o + k * 7 + 4, none⟩ = some (.slice none 0 0) := fun n => by rw [hfw, HW.out]; exact p4
      have r5 : ∀ n, (fw n).cell? ⟨b, o + k * 7 + 5, none⟩ = some (.int .i64 0) := fun n => by rw [hfw, HW.out]; exact p5
      have r6 : ∀ n, (fw n).cell? ⟨b, o + k * 7 + 6, none⟩ = some (.int .u8 0) := fun n => by rw [hfw, HW.out]; exact p6
      have r5' : ∀ n, (fw n).cell? ⟨b, o + k * 7 + 4 + 1, none⟩ = some (.int .i64 0) := r5
      have r6' : ∀ n, (fw n).cell? ⟨b, o + k * 7 + 4 + 2, none⟩ = some (.int .u8 0) := r6
      have s0 : ∀ n, (fw n).cell? ⟨b2, o2 + k * 7, none⟩ = some (.int .i64 kd) := fun n => by rw [hfw, HW.out]; exact q0
      have s1 : ∀ n, (fw n).cell? ⟨b2, o2 + k * 7 + 1, none⟩ = some (.string nm) := fun n => by rw [hfw, HW.out]; exact q1
      have s2 : ∀ n, (fw n).cell? ⟨b2, o2 + k * 7 + 2, none⟩ = some (.slice y.ad y.data.length y.cp) := fun n => by rw [hfw, HW.out]; exact q2
      have k1 : ∀ n, (convert 30 9 (.slice x.ad x.data.length x.cp)).run Tryd.prog (fw n) = .ok (.string sx) (fw n) := fun n => by rw [hfw, HW.out, ← HSX.out]; exact strF_any _ x.ad x.data.length x.cp B x.data ((HBX.out.drewN' _).drewN' _) rfl
      have k2 : ∀ n, (convert 30 9 (.slice y.ad y.data.length y.cp)).run Tryd.prog (fw n) = .ok (.string sx) (fw n) := fun n => by rw [hfw, HW.out, ← HSX.out, HE3.out]; exact strF_any _ y.ad y.data.length y.cp B y.data ((HBY.out.drewN' _).drewN' _) rfl
      have h01 : fw 1 = wr.drew := hfw 1
      clear hfw p0 p1 p2 p3 p4 p5 p6 q0 q1 q2
      refine region_quiet_f fw 1 h01 (by kernel_rfl) (by kernel_rfl) ?_
      simp only [List.append_eq, List.cons_append, List.nil_append]
      repeat (go_big_quiet_step (fail))
      refine wpQuiet_nil ?_
      rintro _ ⟨nq, rfl⟩
      have HWN : Hid (fw nq = wr.drewN nq) := HFW.out nq
      generalize fw nq = w5 at *
      clear r0 r1 r2 r3 r4 r5 r6 r5' r6' s0 s1 s2 k1 k2 h01 HFW
      go_wp2
      go_roundg (gk - 1)
      case measure => omega
      case rel => exact ⟨k + 1, _, by omega, by go_num, by rw [HWN.out, HW.out]; exact World.drewN_drewN ..⟩
    · obtain rfl : k = l := by omega
      clear hwr
      go_wp2
      go_ret
      exact ⟨rfl, n, HW.out.symm⟩
end Go.Proofs.YtfnkbpcimbldbaaDoor
