/- The reference's Sort of texts. -/
import Derived.Test.YtmcblagpindncaaDoorMbG
namespace Go.Proofs.YtmcblagpindncaaDoor
open Go.RowKit

theorem put_self {os : List (List UInt8)} (h : Ris kB os) {x : List UInt8} (hx : os[posK kB os (kB x)]? = some x) : withK kB os x = os := by
  have hh : hasK kB os (kB x) = true := hasK_iff.2 ⟨x, List.mem_of_getElem? hx, rfl⟩
  rw [← put_there h x hh]
  apply List.ext_getElem?
  intro i
  rw [List.getElem?_set]
  split
  · rename_i e; subst e
    split
    · exact hx.symm
    · rename_i hl; rw [List.getElem?_eq_none (by omega)]
  · rfl
theorem own_text_at {w : World} {base g n c k : Nat} {e : TypeId} {pre post : List (List UInt8)} {z : List UInt8} (h : w.ownsRow base e 1 (.slice (some ⟨g, 0, none⟩) n c) n (textCells (pre ++ z :: post))) (hk : pre.length = k) : w.cell? ⟨g, k, none⟩ = some (.string ⟨z.toArray⟩) := by
  have h1 := textCells_own h (by rw [text_len, List.length_append, List.length_cons]; omega)
  obtain ⟨b', o', e, _, hcc⟩ := h1
  injection e with e
  injection e with e1 e2
  subst e1 e2
  have h2 := hcc k _ (textCells_get (p := z) (by rw [List.getElem?_append_right (by omega), hk, Nat.sub_self]; rfl))
  rw [Nat.zero_add] at h2
  exact h2
set_option maxRecDepth 100000 in
set_option maxHeartbeats 4000000 in
theorem refSortT_any (A : Option Addr) (l c : Nat) (ss : List (List UInt8)) (B : Nat) (w : World) (hl : ss.length = l) (hm : l ≤ 1000000) (hb : Cells w B A (textCells ss)) (hB : B ≤ w.heap.size) :
    Calls Tryd.prog 18 #[.slice A l c] w fun e w' => ∃ A' c', e = .returned (.slice A' (sortB ss).length c') ∧ w'.ownsRow w.heap.size 9 1 (.slice A' (sortB ss).length c') (sortB ss).length (textCells (sortB ss)) ∧ Below w.heap.size w w' := by
  have HC := Lib.hid hb
  have HL := Lib.hid hl
  have HB := Lib.hid hB
  clear hb hl hB
  go_enter Tryd.func18, Tryd.ntmps18
  go_wp2
  go_loopg [3, 4] l (fun gk v i wr => ∃ k : Nat, ∃ os : List (List UInt8), k + gk = l ∧ i = .int .i64 k ∧ os = sortB (ss.take k) ∧ wr.ownsRow w.heap.size 9 1 v os.length (textCells os) ∧ Below w.heap.size w wr)
  case atStart => exact ⟨0, [], by omega, rfl, rfl, World.ownsRow_nil _ _ _ _, Below.refl _ _⟩
  case round =>
    obtain ⟨wa, rfl⟩ : ∃ wa, wa = wr := ⟨_, rfl⟩
    obtain ⟨g1, rfl⟩ : ∃ g1, g1 = gk := ⟨_, rfl⟩
    obtain ⟨k, os, hk, rfl, hos, hown, hbel⟩ := hrel
    have HOWN := Lib.hid hown
    have HBL := Lib.hid hbel
    have HOS := Lib.hid hos
    have HRI : Hid (Ris kB os) := by show Ris kB os; rw [hos]; exact sortB_ris _
    have HOL : Hid (os.length ≤ k) := by
      show _ ≤ _
      rw [hos]
      exact Nat.le_trans (sortB_len _) (by rw [List.length_take]; omega)
    clear hown hbel hos
    obtain ⟨Ak, ck, rfl⟩ := own_form' HOWN.out
    by_cases h : k < l
    · obtain ⟨x, hx⟩ : ∃ x, ss[k]? = some x := ⟨_, List.getElem?_eq_getElem (by have := HL.out; omega)⟩
      obtain ⟨b, o, rfl, hbB, hc⟩ := HC.out (by rw [text_len]; have := HL.out; omega)
      have cw : w.cell? ⟨b, o + k, none⟩ = some (.string ⟨x.toArray⟩) := hc k _ (textCells_get hx)
      have c0 : wa.cell? ⟨b, o + k, none⟩ = some (.string ⟨x.toArray⟩) := (HBL.out.cell (p := ⟨b, o + k, none⟩) (by show b < _; have := HB.out; omega)).trans (hc k _ (textCells_get hx))
      have hw1 : IntKind.i64.wrap ((k : Int) + 1) = (k : Int) + 1 := IntWalk.i64_in _ (by omega)
      have hki : (k : Int) < (l : Int) := by omega
      have HSN : Hid (sortB (ss.take (k + 1)) = withK kB os x) := by show _ = _; rw [takeT_snoc hx, sortB_snoc, HOS.out]
      obtain ⟨sx, hsx⟩ : ∃ sx, (⟨x.toArray⟩ : ByteArray) = sx := ⟨_, rfl⟩
      rw [hsx] at c0 cw
      have HC0 := Lib.hid cw
      clear cw
      have HSX : Hid (kB x = sx) := hsx
      have HBW : Hid (b < w.heap.size) := by show b < _; have := HB.out; omega
      obtain ⟨p, hp⟩ : ∃ p, posK kB os (kB x) = p := ⟨_, rfl⟩
      have HP := Lib.hid hp
      have hpl : p ≤ os.length := by rw [← hp]; exact posK_le _ _
      have hol := HOL.out
      have HLT : Hid (∀ (j : Nat) (y : List UInt8), os[j]? = some y → ltN (kB y) sx = decide (j < p)) := fun j y hj => by
        have h1 := posK_iff HRI.out (kB x) j y hj
        rw [hp, show kB x = sx from hsx] at h1
        cases e : ltN (kB y) sx with
        | true => rw [decide_eq_true (h1.1 e)]
        | false => rw [decide_eq_false (fun h2 => by rw [h1.2 h2] at e; cases e)]
      clear hc hx hsx hp
      go_wp2
      go_loopg [5] p (fun gk2 i wr2 => ∃ (j n : Nat), j + gk2 = p ∧ i = .int .i64 (j : Int) ∧ wr2 = wa.drewN n)
      case atStart => exact ⟨0, 0, by omega, rfl, rfl⟩
      case round =>
        obtain ⟨j, n, hj, rfl, hwr⟩ := hrel
        have HW := Lib.hid hwr
        by_cases hjp : j < p
        · obtain ⟨y, hy⟩ : ∃ y, os[j]? = some y := ⟨_, List.getElem?_eq_getElem (by omega)⟩
          obtain ⟨b2, o2, rfl, _, hcc⟩ := textCells_own HOWN.out (by rw [text_len]; omega)
          have d0 : wr.cell? ⟨b2, o2 + j, none⟩ = some (.string ⟨y.toArray⟩) := by rw [hwr]; exact hcc j _ (textCells_get hy)
          have c0' : wr.cell? ⟨b, o + k, none⟩ = some (.string sx) := by rw [hwr]; exact c0
          have hlt := HLT.out j y hy
          rw [decide_eq_true hjp] at hlt
          obtain ⟨sy, hsy⟩ : ∃ sy, (⟨y.toArray⟩ : ByteArray) = sy := ⟨_, rfl⟩
          rw [hsy] at d0
          rw [show kB y = sy from hsy] at hlt
          unfold ltN at hlt
          have hjl : (j : Int) < (os.length : Int) := by omega
          have hw2 : IntKind.i64.wrap ((j : Int) + 1) = (j : Int) + 1 := IntWalk.i64_in _ (by omega)
          clear hcc hy hsy hwr c0
          go_wp2
          go_quiet (fail)
          go_wp2
          go_roundg (gk - 1)
          case measure => omega
          case rel => exact ⟨j + 1, _, by omega, by go_num, by rw [HW.out]; exact drewN_two _ _ _⟩
        · obtain rfl : p = j := by omega
          have HOR : Hid (wr.ownsRow w.heap.size 9 1 (.slice Ak os.length ck) os.length (textCells os)) := by show World.ownsRow _ _ _ _ _ _ _; rw [hwr]; exact HOWN.out
          have HBR : Hid (Below w.heap.size w wr) := by show Below _ _ _; rw [hwr]; exact Below.drewN HBL.out _
          have hzw := HBR.out.size
          by_cases hpe : p < os.length
          · obtain ⟨y, hy⟩ : ∃ y, os[p]? = some y := ⟨_, List.getElem?_eq_getElem hpe⟩
            have hlt := HLT.out p y hy
            rw [decide_eq_false (Nat.lt_irrefl p)] at hlt
            obtain ⟨sy, hsy⟩ : ∃ sy, (⟨y.toArray⟩ : ByteArray) = sy := ⟨_, rfl⟩
            obtain ⟨b2, o2, hAk, _, hcc⟩ := textCells_own HOWN.out (by rw [text_len]; omega)
            have d0 : wr.cell? ⟨b2, o2 + p, none⟩ = some (.string sy) := by rw [hwr, ← hsy]; exact hcc p _ (textCells_get hy)
            have c0' : wr.cell? ⟨b, o + k, none⟩ = some (.string sx) := by rw [hwr]; exact c0
            rw [show kB y = sy from hsy] at hlt
            unfold ltN at hlt
            have hjl : (p : Int) < (os.length : Int) := by omega
            have hhk := hasK_pos HRI.out (kB x) y (by rw [HP.out]; exact hy)
            by_cases hxy : y = x
            · have hself : withK kB os x = os := put_self HRI.out (by rw [HP.out, ← hxy]; exact hy)
              have hss : sy = sx := by rw [← hsy, ← HSX.out, hxy]; rfl
              rw [hself] at HSN
              subst hss
              subst hAk
              clear hcc hy hsy hwr c0 hhk hself
              go_wp2
              go_quiet (fail)
              go_wp2
              go_quiet (fail)
              go_wp2
              go_roundg (g1 - 1)
              case measure => omega
              case rel => exact ⟨k + 1, os, by omega, by go_num, HSN.out.symm, HOR.out, Below.drewN HBR.out _⟩
            · have HNO : Hid (hasK kB os (kB x) = false) := by show _ = _; rw [hhk]; exact decide_eq_false (fun e => hxy (kB_inj e))
              have hse : (sy.toList == sx.toList) = false := by rw [nmEq_dec]; exact decide_eq_false (fun e => hxy (kB_inj (by rw [HSX.out, ← e]; exact hsy)))
              have hse2 : ¬ sy.toList = sx.toList := by rw [← beq_iff_eq, hse]; decide
              subst hAk
              clear hcc hy hsy hwr c0 hhk hxy
              go_wp2
              go_quiet (fail)
              go_wp2
              go_quiet (fail)
              go_wp2_with (at_builtin; go_must (skip; refine wpList_app1 _ textElem rfl (.tmp 45) (.tmp 46) rfl w.heap.size (.slice (some ⟨b2, o2, none⟩) os.length ck) os.length (textCells os) rfl (by exact HOR.out) #[.string ⟨#[]⟩] rfl rfl (by simp [Value.oneCell']) (by unfold maxLen; omega) (by omega) (by exact hzw) ?_; intro A3 c3 w3 hA; have HA := Lib.hid hA; clear hA))
              have HO3 : Hid (w3.ownsRow w.heap.size 9 1 (.slice A3 (os.length + 1) c3) (os.length + 1) (textCells (os ++ [[]]))) := by rw [← textCells_snoc]; exact HA.out.own
              have HB3 : Hid (Below w.heap.size w w3) := HA.out.below (Below.drewN HBR.out _) HBR.out.size (fun q hq => (HOWN.out.lt q hq).1)
              have hwl : IntKind.i64.wrap (os.length : Int) = (os.length : Int) := IntWalk.i64_in _ (by omega)
              obtain ⟨g3, rfl⟩ : ∃ g3, A3 = some ⟨g3, 0, none⟩ := by
                rcases ownK_form HO3.out with ⟨he, h0⟩ | ⟨g', c', he⟩
                · omega
                · injection he with hA _ _
                  exact ⟨g', hA⟩
              clear HA
              go_wp2
              go_loopg [6] (os.length - p) (fun gk i wr => ∃ (q : Nat) (z : List UInt8), p + gk = q ∧ q ≤ os.length ∧ i = .int .i64 (q : Int) ∧ wr.ownsRow w.heap.size 9 1 (.slice (some ⟨g3, 0, none⟩) (os.length + 1) c3) (os.length + 1) (textCells (os.take q ++ z :: os.drop q)) ∧ Below w.heap.size w wr)
              case atStart => exact ⟨os.length, [], by omega, Nat.le_refl _, rfl, by rw [List.take_length, List.drop_length]; exact HO3.out, HB3.out⟩
              case round =>
                obtain ⟨q, z, hq, hql, rfl, hown, hbel⟩ := hrel
                have HO4 := Lib.hid hown
                have HB4 := Lib.hid hbel
                obtain ⟨cur, hg, htk, hgw, hnc, hcm, hcs, hxl⟩ := ownK_row hown
                by_cases hqp : p < q
                · obtain ⟨r, rfl⟩ : ∃ r, q = r + 1 := ⟨q - 1, by omega⟩
                  obtain ⟨y, hy⟩ : ∃ y, os[r]? = some y := ⟨_, List.getElem?_eq_getElem (by omega)⟩
                  have hdy : os.drop r = y :: os.drop (r + 1) := by
                    obtain ⟨h1, h2⟩ := List.getElem?_eq_some_iff.1 hy
                    rw [← h2]
                    exact List.drop_eq_getElem_cons h1
                  have hty : os.take (r + 1) = os.take r ++ [y] := takeT_snoc hy
                  have hlr : (os.take (r + 1)).length = r + 1 := by rw [List.length_take]; omega
                  have d0 : wr.cell? ⟨g3, r, none⟩ = some (.string ⟨y.toArray⟩) := by
                    have h1 := textCells_own hown (by rw [text_len, List.length_append, List.length_cons]; omega)
                    obtain ⟨b', o', e, _, hcc⟩ := h1
                    injection e with e
                    injection e with e1 e2
                    subst e1 e2
                    have h2 := hcc r _ (textCells_get (p := y) (by rw [List.getElem?_append_left (by omega), hty, List.getElem?_append_right (by rw [List.length_take]; omega), List.length_take, Nat.min_eq_left (by omega), Nat.sub_self]; rfl))
                    rw [Nat.zero_add] at h2
                    exact h2
                  have e0 : wr.cell? ⟨g3, r + 1, none⟩ = some (.string ⟨z.toArray⟩) := own_text_at hown hlr
                  have f0 : wr.frozen? ⟨g3, r + 1, none⟩ = false := frozen_of_row wr g3 (r + 1) _ _ hg
                  have hwr1 : IntKind.i64.wrap (r : Int) = (r : Int) := IntWalk.i64_in _ (by omega)
                  have hwr2 : IntKind.i64.wrap ((r : Int) + 1 - 1) = (r : Int) := by rw [Int.add_sub_cancel]; exact hwr1
                  have hlt1 : (p : Int) < (r : Int) + 1 := by omega
                  have hlt2 : (r : Int) + 1 < (os.length : Int) + 1 := by omega
                  have hlt3 : (r : Int) < (os.length : Int) + 1 := by omega
                  have HST := Lib.hid (own_text_set (y := y) hown hlr (by omega))
                  have HGW := Lib.hid hgw
                  have HRW : Hid (os.take (r + 1) ++ y :: os.drop (r + 1) = os.take r ++ y :: os.drop r) := by show _ = _; rw [hty, hdy]; simp
                  clear hown hbel hg htk hty hdy hy hlr
                  go_wp2
                  go_roundg (gk - 1)
                  case measure => omega
                  case rel =>
                    refine ⟨r, y, by omega, by omega, by go_num, ?_, HB4.out.setCell (by show _ ≤ g3; exact HGW.out) _⟩
                    rw [← HRW.out]
                    exact HST.out
                · obtain rfl : q = p := by omega
                  have c0' : wr.cell? ⟨b, o + k, none⟩ = some (.string sx) := (hbel.cell (p := ⟨b, o + k, none⟩) HBW.out).trans HC0.out
                  have f0 : wr.frozen? ⟨g3, q, none⟩ = false := frozen_of_row wr g3 q _ _ hg
                  have hlr : (os.take q).length = q := by rw [List.length_take]; omega
                  have e0 : wr.cell? ⟨g3, q, none⟩ = some (.string ⟨z.toArray⟩) := own_text_at hown hlr
                  have HST := Lib.hid (own_text_set (y := x) hown hlr (by omega))
                  have HGW := Lib.hid hgw
                  have hlt2 : (q : Int) < (os.length : Int) + 1 := by omega
                  have HPN : Hid (os.take q ++ x :: os.drop q = withK kB os x) := by
                    have := put_new HRI.out x HNO.out
                    rw [HP.out] at this
                    exact this
                  have HWL : Hid ((withK kB os x).length = os.length + 1) := by show _ = _; rw [← HPN.out, List.length_append, List.length_cons, List.length_take, List.length_drop]; omega
                  clear hown hbel hg htk hlr
                  go_wp2
                  go_roundg (g1 - 1)
                  case measure => omega
                  case rel =>
                    refine ⟨k + 1, withK kB os x, by omega, by go_num, HSN.out.symm, ?_, HB4.out.setCell (by show _ ≤ g3; exact HGW.out) _⟩
                    rw [HWL.out, ← HPN.out]
                    have := HST.out
                    rw [show (⟨x.toArray⟩ : ByteArray) = sx from HSX.out] at this
                    exact this
          · have hjl : ¬ (p : Int) < (os.length : Int) := by omega
            have HNO : Hid (hasK kB os (kB x) = false) := hasK_end HRI.out (by rw [HP.out]; omega)
            clear hwr c0
            go_wp2
            go_quiet (fail)
            go_wp2
            go_quiet (fail)
            go_wp2_with (at_builtin; go_must (skip; refine wpList_app1 _ textElem rfl (.tmp 45) (.tmp 46) rfl w.heap.size (.slice Ak os.length ck) os.length (textCells os) rfl (by exact HOR.out) #[.string ⟨#[]⟩] rfl rfl (by simp [Value.oneCell']) (by unfold maxLen; omega) (by omega) (by exact hzw) ?_; intro A3 c3 w3 hA; have HA := Lib.hid hA; clear hA))
            have HO3 : Hid (w3.ownsRow w.heap.size 9 1 (.slice A3 (os.length + 1) c3) (os.length + 1) (textCells (os ++ [[]]))) := by rw [← textCells_snoc]; exact HA.out.own
            have HB3 : Hid (Below w.heap.size w w3) := HA.out.below (Below.drewN HBR.out _) HBR.out.size (fun q hq => (HOWN.out.lt q hq).1)
            have hwl : IntKind.i64.wrap (os.length : Int) = (os.length : Int) := IntWalk.i64_in _ (by omega)
            obtain ⟨g3, rfl⟩ : ∃ g3, A3 = some ⟨g3, 0, none⟩ := by
              rcases ownK_form HO3.out with ⟨he, h0⟩ | ⟨g', c', he⟩
              · omega
              · injection he with hA _ _
                exact ⟨g', hA⟩
            clear HA
            go_wp2
            go_loopg [6] (os.length - p) (fun gk i wr => ∃ (q : Nat) (z : List UInt8), p + gk = q ∧ q ≤ os.length ∧ i = .int .i64 (q : Int) ∧ wr.ownsRow w.heap.size 9 1 (.slice (some ⟨g3, 0, none⟩) (os.length + 1) c3) (os.length + 1) (textCells (os.take q ++ z :: os.drop q)) ∧ Below w.heap.size w wr)
            case atStart => exact ⟨os.length, [], by omega, Nat.le_refl _, rfl, by rw [List.take_length, List.drop_length]; exact HO3.out, HB3.out⟩
            case round =>
              obtain ⟨q, z, hq, hql, rfl, hown, hbel⟩ := hrel
              have HO4 := Lib.hid hown
              have HB4 := Lib.hid hbel
              obtain ⟨cur, hg, htk, hgw, hnc, hcm, hcs, hxl⟩ := ownK_row hown
              by_cases hqp : p < q
              · exact absurd hqp (by omega)
              · obtain rfl : q = p := by omega
                have c0' : wr.cell? ⟨b, o + k, none⟩ = some (.string sx) := (hbel.cell (p := ⟨b, o + k, none⟩) HBW.out).trans HC0.out
                have f0 : wr.frozen? ⟨g3, q, none⟩ = false := frozen_of_row wr g3 q _ _ hg
                have hlr : (os.take q).length = q := by rw [List.length_take]; omega
                have e0 : wr.cell? ⟨g3, q, none⟩ = some (.string ⟨z.toArray⟩) := own_text_at hown hlr
                have HST := Lib.hid (own_text_set (y := x) hown hlr (by omega))
                have HGW := Lib.hid hgw
                have hlt2 : (q : Int) < (os.length : Int) + 1 := by omega
                have HPN : Hid (os.take q ++ x :: os.drop q = withK kB os x) := by
                  have := put_new HRI.out x HNO.out
                  rw [HP.out] at this
                  exact this
                have HWL : Hid ((withK kB os x).length = os.length + 1) := by show _ = _; rw [← HPN.out, List.length_append, List.length_cons, List.length_take, List.length_drop]; omega
                clear hown hbel hg htk hlr
                go_wp2
                go_roundg (g1 - 1)
                case measure => omega
                case rel =>
                  refine ⟨k + 1, withK kB os x, by omega, by go_num, HSN.out.symm, ?_, HB4.out.setCell (by show _ ≤ g3; exact HGW.out) _⟩
                  rw [HWL.out, ← HPN.out]
                  have := HST.out
                  rw [show (⟨x.toArray⟩ : ByteArray) = sx from HSX.out] at this
                  exact this
    · obtain rfl : k = l := by omega
      have HK : Hid (sortB ss = os) := by show _ = _; rw [HOS.out, List.take_of_length_le (by have := HL.out; omega)]
      go_wp2
      go_ret
      rw [HK.out]
      exact ⟨Ak, ck, rfl, HOWN.out, HBL.out⟩
end Go.Proofs.YtmcblagpindncaaDoor
