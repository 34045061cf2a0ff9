/- Layer 5: the reference: a list of names and numbers: Find, Has, Without, With. -/
import Derived.Test.YtbfaefnlhcdnhaaNdO
namespace Go.Proofs.Ytbfaefnlhcdnhaa
open Go.RowKit Go.Maps

def Nt.cells (e : Nt) : List Value := [.string e.nm, .int .i64 e.id]
def ntCells (l : List Nt) : List Value := (l.map Nt.cells).flatten
theorem nt_len (l : List Nt) : (ntCells l).length = l.length * 2 := by
  unfold ntCells
  induction l with
  | nil => rfl
  | cons f l ih => rw [List.map_cons, List.flatten_cons, List.length_append, ih, List.length_cons]; show 2 + _ = _; omega
theorem nt_at {w : World} {b o : Nat} {l : List Nt} {k : Nat} {f : Nt} (hc : ∀ j u, (ntCells l)[j]? = some u → w.cell? ⟨b, o + j, none⟩ = some u) (h : l[k]? = some f) :
    w.cell? ⟨b, o + k * 2, none⟩ = some (.string f.nm) ∧ w.cell? ⟨b, o + k * 2 + 1, none⟩ = some (.int .i64 f.id) := by
  have key : ∀ (r : Nat) (u : Value), f.cells[r]? = some u → w.cell? ⟨b, o + (k * 2 + r), none⟩ = some u := fun r u hu => hc _ _ (code_at (rs := l) (code := Nt.cells) (s := 2) (fun _ _ => rfl) h hu)
  have k0 := key 0 _ rfl
  have k1 := key 1 _ rfl
  simp only [← Nat.add_assoc, Nat.add_zero] at k0 k1
  exact ⟨k0, k1⟩
theorem ntCells_snoc (l : List Nt) (x : Nt) : ntCells (l ++ [x]) = ntCells l ++ x.cells := by unfold ntCells; simp
theorem takeN_snoc {l : List Nt} {k : Nat} {x : Nt} (h : l[k]? = some x) : l.take (k + 1) = l.take k ++ [x] := by rw [List.take_add_one, h]; rfl
theorem ntElem : Elem Try.prog 29 52 (.agg #[.string ⟨#[]⟩, .int .i64 0]) 2 24 := Elem.of Try.underlying29 (by kernel_rfl) (by kernel_rfl) (by omega)
/-- A name's place; -1, if it isn't there. -/
def findN (l : List Nt) (s : ByteArray) : Int := if hasK Nt.nm l s then (posK Nt.nm l s : Int) else -1
set_option maxRecDepth 100000 in
set_option maxHeartbeats 1000000 in
theorem refFind5_any (A : Option Addr) (l c : Nat) (fs : List Nt) (s : ByteArray) (B : Nat) (w : World) (hl : fs.length = l) (hm : l ≤ 1000000) (hr : Ris Nt.nm fs) (hb : Cells w B A (ntCells fs)) :
    Calls Try.prog 20 #[.slice A l c, .string s] w fun e w' => e = .returned (.int .i64 (findN fs s)) ∧ w = w' := by
  have HF := Lib.hid hb
  have HL := Lib.hid hl
  have HR := Lib.hid hr
  clear hb hl hr
  go_enter Try.func20, Try.ntmps20
  go_wp2
  go_loopg [5] l (fun gk i wr => ∃ k : Nat, k + gk = l ∧ i = .int .i64 (k : Int) ∧ wr = w ∧ ∀ (j : Nat) (x : Nt), j < k → fs[j]? = some x → x.nm ≠ s)
  case atStart => exact ⟨0, by omega, rfl, rfl, fun j x hj => absurd hj (Nat.not_lt_zero _)⟩
  case round =>
    obtain ⟨k, hk, rfl, rfl, hall⟩ := hrel
    have HA := Lib.hid hall
    clear hall
    by_cases h : k < l
    · obtain ⟨x, hx⟩ : ∃ x, fs[k]? = some x := ⟨_, List.getElem?_eq_getElem (by have := HL.out; omega)⟩
      obtain ⟨b, o, rfl, _, hc⟩ := HF.out (by rw [nt_len]; have := HL.out; omega)
      have c0 := (nt_at hc hx).1
      have hki : (k : Int) < (l : Int) := by omega
      have hw1 : IntKind.i64.wrap ((k : Int) + 1) = (k : Int) + 1 := IntWalk.i64_in _ (by omega)
      have HX := Lib.hid hx
      clear hc hx
      by_cases hn : x.nm = s
      · have hn2 : x.nm.toList = s.toList := by rw [hn]
        have hn3 : (x.nm.toList == s.toList) = true := by rw [hn]; simp
        have HFE : Hid (findN fs s = (k : Int)) := by
          show _ = _
          unfold findN
          rw [if_pos (hasK_iff.2 ⟨x, List.mem_of_getElem? HX.out, hn⟩), ← hasK_at HR.out HX.out hn]
        clear hn
        go_wp2
        go_ret
        exact ⟨by rw [HFE.out]; rfl, rfl⟩
      · have hn3 : (x.nm.toList == s.toList) = false := by rw [nmEq_dec]; exact decide_eq_false hn
        have hn2 : ¬ x.nm.toList = s.toList := by rw [← beq_iff_eq, hn3]; decide
        have HNE : Hid (x.nm ≠ s) := hn
        clear hn
        go_wp2
        go_roundg (gk - 1)
        case measure => omega
        case rel =>
          refine ⟨k + 1, by omega, by go_num, rfl, fun j x' hj hx' => ?_⟩
          by_cases hjk : j = k
          · subst hjk
            rw [HX.out] at hx'
            injection hx' with hx'
            subst hx'
            exact HNE.out
          · exact HA.out j x' (by omega) hx'
    · obtain rfl : k = l := by omega
      have HFE : Hid (findN fs s = -1) := by
        show _ = _
        unfold findN
        rw [if_neg]
        rw [Bool.not_eq_true, hasK_not]
        intro x hx
        obtain ⟨j, hj⟩ := List.mem_iff_getElem?.1 hx
        exact HA.out j x (by have := (List.getElem?_eq_some_iff.1 hj).1; have := HL.out; omega) hj
      go_wp2
      go_ret
      exact ⟨by rw [HFE.out]; rfl, rfl⟩
set_option maxRecDepth 100000 in
set_option maxHeartbeats 1000000 in
theorem refWithout5_any (A : Option Addr) (l c : Nat) (ms : List Nt) (s : ByteArray) (B : Nat) (w : World) (hl : ms.length = l) (hm : l ≤ 1000000) (hb : Cells w B A (ntCells ms)) (hB : B ≤ w.heap.size) :
    Calls Try.prog 37 #[.slice A l c, .string s] w fun e w' => ∃ A' c', e = .returned (.slice A' (outK Nt.nm ms s).length c') ∧ w'.ownsRow w.heap.size 52 2 (.slice A' (outK Nt.nm ms s).length c') (outK Nt.nm ms s).length (ntCells (outK Nt.nm ms s)) ∧ Below w.heap.size w w' := by
  have HC := Lib.hid hb
  have HFL := Lib.hid (nt_len ms)
  have HL := Lib.hid hl
  have HB := Lib.hid hB
  clear hb hl hB
  go_enter Try.func37, Try.ntmps37
  go_wp2
  go_loopg [5, 6] l (fun gk v i wr => ∃ k : Nat, ∃ os : List Nt, k + gk = l ∧ i = .int .i64 k ∧ os = outK Nt.nm (ms.take k) s ∧ wr.ownsRow w.heap.size 52 2 v os.length (ntCells os) ∧ Below w.heap.size w wr)
  case atStart => exact ⟨0, [], by omega, rfl, rfl, World.ownsRow_nil _ _ _ _, Below.refl _ _⟩
  case round =>
    obtain ⟨k, os, hk, rfl, hos, hown, hbel⟩ := hrel
    have HOWN := Lib.hid hown
    have HBL := Lib.hid hbel
    have HOS := Lib.hid hos
    clear hown hbel hos
    obtain ⟨Ak, ck, rfl⟩ := own_form' HOWN.out
    by_cases h : k < l
    · obtain ⟨x, hx⟩ : ∃ x, ms[k]? = some x := ⟨_, List.getElem?_eq_getElem (by have := HL.out; omega)⟩
      obtain ⟨b, o, rfl, hbB, hc⟩ := HC.out (by rw [HFL.out]; have := HL.out; omega)
      have hcw := fun j u hj => (HBL.out.cell (p := ⟨b, o + j, none⟩) (Nat.lt_of_lt_of_le hbB HB.out)).trans (hc j u hj); obtain ⟨c0, c1⟩ := nt_at hcw hx
      have HTK := Lib.hid (takeN_snoc hx)
      have hw1 : IntKind.i64.wrap ((k : Int) + 1) = (k : Int) + 1 := IntWalk.i64_in _ (by omega)
      obtain ⟨q, hq⟩ : ∃ q, (x.nm.toList == s.toList) = q := ⟨_, rfl⟩
      have HQ := Lib.hid hq
      have hq2 : (x.nm.toList = s.toList) = (q = true) := by rw [← hq, beq_iff_eq]
      have HOL : Hid (os.length ≤ k) := by
        show _ ≤ _
        rw [HOS.out]
        exact Nat.le_trans (List.length_filter_le _ _) (by rw [List.length_take]; omega)
      clear hcw hc hx
      cases q with
      | true =>
        simp only [eq_self, eq_iff_iff, iff_true] at hq2
        go_wp2
        go_roundg (gk - 1)
        case measure => omega
        case rel =>
          refine ⟨k + 1, os, by omega, by go_num, ?_, HOWN.out, HBL.out⟩
          rw [HTK.out, HOS.out]
          unfold outK
          rw [List.filter_append, List.filter_cons_of_neg (by simp [nmEq_of HQ.out]), List.filter_nil, List.append_nil]
      | false =>
        simp only [Bool.false_eq_true, eq_iff_iff, iff_false] at hq2
        have hol := HOL.out
        go_wp2_with (at_builtin; (refine wpList_app1 _ ntElem rfl (.tmp 20) (.tmp 25) rfl w.heap.size (.slice Ak (os.length) ck) (os.length) _ rfl HOWN.out #[.string x.nm, .int .i64 x.id] rfl rfl (by intro u hu; simp only [List.mem_cons, List.not_mem_nil, or_false] at hu; rcases hu with rfl | rfl <;> rfl) (by unfold maxLen; omega) (by omega) HBL.out.size ?_; intro A3 cp3 w3 hA; have HA3 := Lib.hid hA; clear hA))
        go_roundg (gk - 1)
        case measure => omega
        case rel =>
          have e : outK Nt.nm (ms.take (k + 1)) s = os ++ [x] := by
            rw [HTK.out, HOS.out]
            unfold outK
            rw [List.filter_append, List.filter_cons_of_pos (by simp [nmEq_not HQ.out]), List.filter_nil]
          have ho := HA3.out.own
          refine ⟨k + 1, os ++ [x], by omega, by go_num, e.symm, ?_, HA3.out.below HBL.out HBL.out.size (fun q hq => (HOWN.out.lt q hq).1)⟩
          rw [ntCells_snoc, List.length_append]
          exact ho
    · obtain rfl : k = l := by omega
      have HK : Hid (outK Nt.nm ms s = os) := by show _ = _; rw [HOS.out, List.take_of_length_le (by have := HL.out; omega)]
      go_wp2
      go_ret
      rw [HK.out]
      exact ⟨Ak, ck, rfl, HOWN.out, HBL.out⟩
theorem withN_all {l : List Nt} {m : Nt} (h : ∀ x ∈ l, ltN x.nm m.nm = true) : withK Nt.nm l m = l ++ [m] := by
  unfold withK
  rw [List.filter_eq_self.2 h, List.filter_eq_nil_iff.2 (fun x hx => by rw [ltN_asymm (h x hx)]; decide)]
theorem withN_snoc (l : List Nt) {m x : Nt} (h : ltN m.nm x.nm = true) : withK Nt.nm (l ++ [x]) m = withK Nt.nm l m ++ [x] := by
  unfold withK
  rw [List.filter_append, List.filter_append, List.filter_cons_of_neg (by rw [ltN_asymm h]; decide), List.filter_cons_of_pos (by exact h), List.filter_nil, List.filter_nil]
  simp
theorem risN_get {l : List Nt} (h : Ris Nt.nm l) {i j : Nat} {x y : Nt} (hx : l[i]? = some x) (hy : l[j]? = some y) (hij : i < j) : ltN x.nm y.nm = true := by
  obtain ⟨h1, rfl⟩ := List.getElem?_eq_some_iff.1 hx
  obtain ⟨h2, rfl⟩ := List.getElem?_eq_some_iff.1 hy
  exact List.pairwise_iff_getElem.1 h i j h1 h2 hij
theorem own_lowN {w : World} {b b' : Nat} {e : TypeId} {k n : Nat} {v : Value} {xs : List Value} (h : w.ownsRow b e k v n xs) (hb : b' ≤ b) : w.ownsRow b' e k v n xs := ⟨h.1, by
  rcases h.2 with h | ⟨g, cap, cur, h1, h2, h3⟩
  · exact .inl h
  · exact .inr ⟨g, cap, cur, h1, Nat.le_trans hb h2, h3⟩⟩
set_option maxRecDepth 100000 in
set_option maxHeartbeats 1000000 in
theorem refWith5_any (A : Option Addr) (l c : Nat) (ms0 : List Nt) (m : Nt) (B : Nat) (w : World) (hl : ms0.length = l) (hm : l ≤ 100000) (hr : Ris Nt.nm ms0) (hb : Cells w B A (ntCells ms0)) (hB : B ≤ w.heap.size) :
    Calls Try.prog 36 #[.slice A l c, .string m.nm, .int .i64 m.id] w fun e w' => ∃ A' c', e = .returned (.slice A' (withK Nt.nm ms0 m).length c') ∧ w'.ownsRow w.heap.size 52 2 (.slice A' (withK Nt.nm ms0 m).length c') (withK Nt.nm ms0 m).length (ntCells (withK Nt.nm ms0 m)) ∧ Below w.heap.size w w' := by
  have HWO := Lib.hid (refWithout5_any A l c ms0 m.nm B w hl (by omega) hb hB)
  obtain ⟨ms, hms⟩ : ∃ ms, outK Nt.nm ms0 m.nm = ms := ⟨_, rfl⟩
  have HR : Hid (Ris Nt.nm ms) := by show Ris _ _; rw [← hms]; exact hr.outK _
  have HNE : Hid (∀ x ∈ ms, x.nm ≠ m.nm) := fun x hx => by rw [← hms] at hx; exact (mem_out.1 hx).2
  have HW : Hid (withK Nt.nm ms0 m = withK Nt.nm ms m) := by show _ = _; rw [← hms]; exact (with_out hr m).symm
  have hml : ms.length ≤ 100000 := by rw [← hms]; exact Nat.le_trans (out_len _ _) (by omega)
  rw [hms] at HWO
  rw [HW.out]
  clear hb hl hB hr hms
  go_enter Try.func36, Try.ntmps36
  go_wp2_with (go_at_call 37; refine HWO.out.mono ?_; rintro e w0 ⟨A0, c0', rfl, ho0, hb0⟩; have HO0 := Lib.hid ho0; have HB0 := Lib.hid hb0; clear ho0 hb0)
  have HC := Lib.hid (cells_of_ownD HO0.out)
  obtain ⟨l2, hl2⟩ : ∃ l2, ms.length = l2 := ⟨_, rfl⟩
  have HL := Lib.hid hl2
  rw [hl2] at hml ⊢
  clear hl2
  go_loopg [7, 8, 9] l2 (fun gk v p i wr => ∃ k : Nat, ∃ pt : Bool, ∃ os : List Nt, k + gk = l2 ∧ i = .int .i64 k ∧ p = .bool pt ∧ os = (if pt then withK Nt.nm (ms.take k) m else ms.take k) ∧ (pt = false → ∀ x ∈ ms.take k, ltN x.nm m.nm = true) ∧ (pt = true → ∃ j x, j < k ∧ ms[j]? = some x ∧ ltN m.nm x.nm = true) ∧ wr.ownsRow w0.heap.size 52 2 v os.length (ntCells os) ∧ os.length ≤ k + 1 ∧ Below w0.heap.size w0 wr)
  case atStart => exact ⟨0, false, [], by omega, rfl, rfl, rfl, (fun _ x hx => by simp at hx), (fun h => by cases h), World.ownsRow_nil _ _ _ _, Nat.zero_le _, Below.refl _ _⟩
  case round =>
    obtain ⟨k, pt, os, hk, rfl, rfl, hos, hlow, hhi, hown, hol, hbel⟩ := hrel
    have HOWN := Lib.hid hown
    have HBL := Lib.hid hbel
    have HBW := Lib.hid (HB0.out.trans (hbel.mono HB0.out.size))
    have HOS := Lib.hid hos
    have HLOW := Lib.hid hlow
    have HHI := Lib.hid hhi
    clear hown hbel hos hlow hhi
    obtain ⟨Ak, ck, rfl⟩ := own_form' HOWN.out
    by_cases h : k < l2
    · obtain ⟨x, hx⟩ : ∃ x, ms[k]? = some x := ⟨_, List.getElem?_eq_getElem (by have := HL.out; omega)⟩
      obtain ⟨b, o, rfl, hbB, hc⟩ := HC.out (by rw [nt_len]; have := HL.out; omega)
      have HMT : Hid (∀ W, Below w0.heap.size w0 W → W.cell? ⟨b, o + k * 2, none⟩ = some (.string x.nm) ∧ W.cell? ⟨b, o + k * 2 + 1, none⟩ = some (.int .i64 x.id)) := fun W hW => nt_at (fun j u hj => (hW.cell (p := ⟨b, o + j, none⟩) hbB).trans (hc j u hj)) hx
      obtain ⟨c0, c1⟩ := HMT.out wr HBL.out
      have HTK := Lib.hid (takeN_snoc hx)
      have HX := Lib.hid hx
      have HXN := Lib.hid (HNE.out x (List.mem_of_getElem? hx))
      have hw1 : IntKind.i64.wrap ((k : Int) + 1) = (k : Int) + 1 := IntWalk.i64_in _ (by omega)
      clear hc hx
      cases pt with
      | true =>
        obtain ⟨j, y, hj, hy, hjl⟩ := HHI.out rfl
        have HGT : Hid (ltN m.nm x.nm = true) := ltN_trans hjl (risN_get HR.out hy HX.out hj)
        have HJ := Lib.hid (show ∃ j x, j < k + 1 ∧ ms[j]? = some x ∧ ltN m.nm x.nm = true from ⟨j, y, by omega, hy, hjl⟩)
        clear hy hjl hj
        go_wp2_with (at_builtin; (refine wpList_app1 _ ntElem rfl (.tmp 36) (.tmp 41) rfl w0.heap.size (.slice Ak (os.length) ck) (os.length) _ rfl HOWN.out #[.string x.nm, .int .i64 x.id] rfl rfl (by intro u hu; simp only [List.mem_cons, List.not_mem_nil, or_false] at hu; rcases hu with rfl | rfl <;> rfl) (by unfold maxLen; omega) (by omega) HBL.out.size ?_; intro A3 cp3 w3 hA; have HA3 := Lib.hid hA; clear hA))
        go_roundg (gk - 1)
        case measure => omega
        case rel =>
          have ho := HA3.out.own
          refine ⟨k + 1, true, os ++ [x], by omega, by go_num, rfl, ?_, (fun h => by cases h), (fun _ => HJ.out), ?_, by rw [List.length_append, List.length_singleton]; omega, ?_⟩
          · have e0 : os = withK Nt.nm (ms.take k) m := by simpa using HOS.out
            rw [if_pos rfl, HTK.out, withN_snoc _ HGT.out, e0]
          · rw [ntCells_snoc, List.length_append]
            exact ho
          · exact HA3.out.below HBL.out HBL.out.size (fun q hq => (HOWN.out.lt q hq).1)
      | false =>
        have hos := HOS.out
        replace hos : os = ms.take k := by simpa using hos
        have HOS0 := Lib.hid hos
        clear hos HOS
        have HLO := Lib.hid (HLOW.out rfl)
        obtain ⟨q, hq⟩ : ∃ q, Op.bytesLess m.nm.toList x.nm.toList = q := ⟨_, rfl⟩
        have HQ := Lib.hid (show ltN m.nm x.nm = q from hq)
        clear HHI HLOW
        cases q with
        | false =>
          have HLT : Hid (ltN x.nm m.nm = true) := ltN_gt HQ.out (fun e => HXN.out e.symm)
          go_wp2_with (at_builtin; (refine wpList_app1 _ ntElem rfl (.tmp 36) (.tmp 41) rfl w0.heap.size (.slice Ak (os.length) ck) (os.length) _ rfl HOWN.out #[.string x.nm, .int .i64 x.id] rfl rfl (by intro u hu; simp only [List.mem_cons, List.not_mem_nil, or_false] at hu; rcases hu with rfl | rfl <;> rfl) (by unfold maxLen; omega) (by omega) HBL.out.size ?_; intro A3 cp3 w3 hA; have HA3 := Lib.hid hA; clear hA))
          go_roundg (gk - 1)
          case measure => omega
          case rel =>
            have ho := HA3.out.own
            refine ⟨k + 1, false, os ++ [x], by omega, by go_num, rfl, ?_, (fun _ y hy => ?_), (fun h => by cases h), ?_, by rw [List.length_append, List.length_singleton]; omega, ?_⟩
            · rw [if_neg (by decide), HTK.out, HOS0.out]
            · rw [HTK.out] at hy
              rcases List.mem_append.1 hy with hy | hy
              · exact HLO.out y hy
              · rw [List.mem_singleton.1 hy]; exact HLT.out
            · rw [ntCells_snoc, List.length_append]
              exact ho
            · exact HA3.out.below HBL.out HBL.out.size (fun q hq => (HOWN.out.lt q hq).1)
        | true =>
          have HJ := Lib.hid (show ∃ j x, j < k + 1 ∧ ms[j]? = some x ∧ ltN m.nm x.nm = true from ⟨k, x, by omega, HX.out, HQ.out⟩)
          go_wp2_with (first
            | (at_builtin; (refine wpList_app1 _ ntElem rfl (.tmp 30) (.tmp 34) rfl w0.heap.size (.slice Ak (os.length) ck) (os.length) _ rfl HOWN.out #[.string m.nm, .int .i64 m.id] rfl rfl (by intro u hu; simp only [List.mem_cons, List.not_mem_nil, or_false] at hu; rcases hu with rfl | rfl <;> rfl) (by unfold maxLen; omega) (by omega) HBL.out.size ?_; intro A3 cp3 w3 hA; have HA3 := Lib.hid hA; have HB3 : Hid (Below w0.heap.size w0 w3) := hA.below HBL.out HBL.out.size (fun q hq => (HOWN.out.lt q hq).1); obtain ⟨d0, d1⟩ := HMT.out w3 HB3.out; have HO3 := Lib.hid hA.own; clear hA))
            | (at_builtin; (refine wpList_app1 _ ntElem rfl (.tmp 36) (.tmp 41) rfl w0.heap.size (.slice A3 (os.length + 1) cp3) (os.length + 1) _ rfl HO3.out #[.string x.nm, .int .i64 x.id] rfl rfl (by intro u hu; simp only [List.mem_cons, List.not_mem_nil, or_false] at hu; rcases hu with rfl | rfl <;> rfl) (by unfold maxLen; omega) (by omega) HB3.out.size ?_; intro A5 cp5 w5 hA; have HA5 := Lib.hid hA; clear hA)))
          go_roundg (gk - 1)
          case measure => omega
          case rel =>
            have ho := HA5.out.own
            have he : os ++ [m] ++ [x] = withK Nt.nm (ms.take (k + 1)) m := by
              rw [HTK.out, withN_snoc _ HQ.out, withN_all (fun y hy => HLO.out y hy), HOS0.out]
            refine ⟨k + 1, true, os ++ [m] ++ [x], by omega, by go_num, rfl, by rw [if_pos rfl]; exact he, (fun h => by cases h), (fun _ => HJ.out), ?_, by have hl := congrArg List.length HOS0.out; rw [List.length_take] at hl; rw [List.length_append, List.length_append, List.length_singleton, List.length_singleton]; omega, ?_⟩
            · rw [ntCells_snoc, ntCells_snoc, List.length_append, List.length_append]
              exact ho
            · exact HA5.out.below HB3.out HB3.out.size (fun q hq => (HO3.out.lt q hq).1)
    · obtain rfl : k = l2 := by omega
      have HTA : Hid (ms.take k = ms) := by show _ = _; rw [List.take_of_length_le (by have := HL.out; omega)]
      cases pt with
      | true =>
        have HE2 : Hid (withK Nt.nm ms m = os) := by show _ = _; have := HOS.out; rw [HTA.out] at this; simpa using this.symm
        go_wp2
        go_ret
        rw [HE2.out]
        exact ⟨Ak, ck, rfl, own_lowN HOWN.out HB0.out.size, HBW.out⟩
      | false =>
        have HE2 : Hid (withK Nt.nm ms m = os ++ [m]) := by
          show _ = _
          have := HOS.out
          rw [HTA.out] at this
          have h2 := HLOW.out rfl
          rw [HTA.out] at h2
          rw [withN_all h2]
          simpa using this.symm
        go_wp2_with (at_builtin; (refine wpList_app1 _ ntElem rfl (.tmp 45) (.tmp 49) rfl w0.heap.size (.slice Ak (os.length) ck) (os.length) _ rfl HOWN.out #[.string m.nm, .int .i64 m.id] rfl rfl (by intro u hu; simp only [List.mem_cons, List.not_mem_nil, or_false] at hu; rcases hu with rfl | rfl <;> rfl) (by unfold maxLen; omega) (by omega) HBL.out.size ?_; intro A3 cp3 w3 hA; have HA3 := Lib.hid hA; clear hA))
        go_ret
        have ho := HA3.out.own
        rw [HE2.out]
        refine ⟨A3, cp3, by rw [List.length_append]; rfl, by rw [ntCells_snoc, List.length_append]; exact own_lowN ho HB0.out.size, HB0.out.trans ((HA3.out.below HBL.out HBL.out.size (fun q hq => (HOWN.out.lt q hq).1)).mono HB0.out.size)⟩
end Go.Proofs.Ytbfaefnlhcdnhaa
