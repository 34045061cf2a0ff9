/- Layer 24: the reference's Find, Room, Bytes, Without, With. -/
import Derived.Test.YtjoifgeljjgflaaDoorMgQ14430
import Derived.Test.YtjoifgeljjgflaaDoorMgQ14423
import Derived.Deep.RegionHeld3
import Derived.Deep.DeepCutAuto
namespace Go.Proofs.YtjoifgeljjgflaaDoor
open Go.RowKit

theorem own_low {w : World} {b b' : Nat} {e : TypeId} {k n : Nat} {v : Value} {xs : List Value} (h : w.ownsRow b e k v n xs) (hb : b' ≤ b) : w.ownsRow b' e k v n xs := ⟨h.1, by
  rcases h.2 with h | ⟨g, cap, cur, h1, h2, h3⟩
  · exact .inl h
  · exact .inr ⟨g, cap, cur, h1, Nat.le_trans hb h2, h3⟩⟩
theorem memCells_snoc (l : List LM) (x : LM) : memCells (l ++ [x]) = memCells l ++ x.cells := by unfold memCells; simp
theorem withK_all {l : List LM} {m : LM} (h : ∀ x ∈ l, ltN x.nm m.nm = true) : withK LM.nm l m = l ++ [m] := by
  unfold withK
  rw [List.filter_eq_self.2 h, List.filter_eq_nil_iff.2 (fun y hy => by simp [ltN_asymm (h y hy)])]
theorem withK_snoc (l : List LM) {m x : LM} (h : ltN m.nm x.nm = true) : withK LM.nm (l ++ [x]) m = withK LM.nm l m ++ [x] := by
  unfold withK
  rw [List.filter_append, List.filter_append, List.filter_cons_of_neg (by simp [ltN_asymm h]), List.filter_nil, List.append_nil, List.filter_cons_of_pos (by simp [h]), List.filter_nil]
  simp
theorem withK_same {l : List LM} {m x : LM} (h : ∀ y ∈ l, ltN y.nm m.nm = true) (e : x.nm = m.nm) : withK LM.nm (l ++ [x]) m = l ++ [m] := by
  rw [← withK_all h]
  unfold withK
  rw [List.filter_append, List.filter_append, List.filter_cons_of_neg (by simp [e, ltN_irrefl]), List.filter_nil, List.append_nil, List.filter_cons_of_neg (by simp [e, ltN_irrefl]), List.filter_nil, List.append_nil]
theorem take_snoc {l : List LM} {k : Nat} {x : LM} (h : l[k]? = some x) : l.take (k + 1) = l.take k ++ [x] := by rw [List.take_add_one, h]; rfl
theorem ris_get {l : List LM} (h : RisM l) {i j : Nat} {x y : LM} (hx : l[i]? = some x) (hy : l[j]? = some y) (hij : i < j) : ltN x.nm y.nm = true := by
  obtain ⟨h1, rfl⟩ := List.getElem?_eq_some_iff.1 hx
  obtain ⟨h2, rfl⟩ := List.getElem?_eq_some_iff.1 hy
  exact List.pairwise_iff_getElem.1 h i j h1 h2 hij
theorem leB_lt (a b : ByteArray) : leB a b = !ltN b a := by
  unfold leB
  cases h : ltN b a with
  | true =>
    rw [show Op.bytesLess a.toList b.toList = false from bl_asymm _ _ h, nmEq_dec, decide_eq_false (fun e => by subst e; rw [ltN_irrefl] at h; cases h)]
    rfl
  | false =>
    by_cases e : a = b
    · rw [nmEq_dec, decide_eq_true e]; simp
    · have : Op.bytesLess a.toList b.toList = true := ltN_gt h (fun e' => e e'.symm)
      rw [this]; rfl

/-- A name's place; -1, if it isn't there. -/
def findI (ms : List LM) (s : ByteArray) : Int := if hasK LM.nm ms s then (posK LM.nm ms s : Int) else -1
set_option maxRecDepth 100000 in
set_option maxHeartbeats 1000000 in
theorem ref24Find_any (A : Option Addr) (l c : Nat) (ms : List LM) (s : ByteArray) (B : Nat) (w : World) (hl : ms.length = l) (hm : l ≤ 1000000000) (hr : RisM ms) (hb : Cells w B A (memCells ms)) :
    Calls Tryd.prog 30 #[.slice A l c, .string s] w fun e w' => e = .returned (.int .i64 (findI ms s)) ∧ w = w' := by
  have HC := Lib.hid hb
  have HFL := Lib.hid (mems_len ms)
  have HL := Lib.hid hl
  have HR := Lib.hid hr
  clear hb hl hr
  go_enter Tryd.func30, Tryd.ntmps30
  go_wp2
  go_loopg [5] l (fun gk i wr => ∃ k : Nat, k + gk = l ∧ i = .int .i64 k ∧ wr = w ∧ ∀ j x, j < k → ms[j]? = some x → x.nm ≠ s)
  case atStart => exact ⟨0, by omega, rfl, rfl, fun j f hj => absurd hj (Nat.not_lt_zero _)⟩
  case round =>
    obtain ⟨k, hk, rfl, rfl, hall⟩ := hrel
    have HA := Lib.hid hall
    clear hall
    by_cases h : k < l
    · obtain ⟨x, hx⟩ : ∃ x, ms[k]? = some x := ⟨_, List.getElem?_eq_getElem (by have := HL.out; omega)⟩
      obtain ⟨b, o, rfl, hbB, hc⟩ := HC.out (by rw [HFL.out]; have := HL.out; omega)
      have c0 := (mem_at hbB hc (Below.refl _ _) hx).c0
      have HX := Lib.hid hx
      have hw1 : IntKind.i64.wrap ((k : Int) + 1) = (k : Int) + 1 := IntWalk.i64_in _ (by omega)
      obtain ⟨q, hq⟩ : ∃ q, (x.nm.toList == s.toList) = q := ⟨_, rfl⟩
      have HQ := Lib.hid hq
      have hq2 : (x.nm.toList = s.toList) = (q = true) := by rw [← hq, beq_iff_eq]
      clear hc hx
      cases q with
      | true =>
        simp only [eq_self, eq_iff_iff, iff_true] at hq2
        have HE : Hid (findI ms s = (k : Int)) := by
          show _ = _
          have e := nmEq_of hq
          unfold findI
          rw [if_pos (hasK_iff.2 ⟨x, List.mem_of_getElem? HX.out, e⟩), ← hasK_at HR.out HX.out e]
        clear hq
        go_wp2
        go_ret
        exact ⟨by rw [HE.out]; rfl, rfl⟩
      | false =>
        simp only [Bool.false_eq_true, eq_iff_iff, iff_false] at hq2
        go_wp2
        go_roundg (gk - 1)
        case measure => omega
        case rel =>
          exact ⟨k + 1, by omega, by go_num, rfl, fun j f' hj hf' => by
            by_cases hjk : j = k
            · subst hjk
              rw [HX.out] at hf'
              injection hf' with hf'
              subst hf'
              exact nmEq_not HQ.out
            · exact HA.out j f' (by omega) hf'⟩
    · obtain rfl : k = l := by omega
      have HE : Hid (findI ms s = -1) := by
        show _ = _
        unfold findI
        have hn : hasK LM.nm ms s = false := hasK_not.2 (fun x hx => by
          obtain ⟨j, hj⟩ := List.mem_iff_getElem?.1 hx
          exact HA.out j x (by have := (List.getElem?_eq_some_iff.1 hj).1; have := HL.out; omega) hj)
        rw [hn]; rfl
      go_wp2
      go_ret
      exact ⟨by rw [HE.out]; rfl, rfl⟩

set_option maxHeartbeats 1000000 in
theorem ref24Room_any (A : Option Addr) (l c : Nat) (ms : List LM) (s : ByteArray) (B : Nat) (w : World) (hl : ms.length = l) (hm : l ≤ 1000000000) (hr : RisM ms) (hb : Cells w B A (memCells ms)) :
    Calls Tryd.prog 31 #[.slice A l c, .string s] w fun e w' => e = .returned (.bool (roomM ms s)) ∧ w = w' := by
  have HF := Lib.hid (ref24Find_any A l c ms s B w hl hm hr hb)
  cases ht : hasK LM.nm ms s with
  | true =>
    have hf : findI ms s = (posK LM.nm ms s : Int) := by unfold findI; rw [ht]; rfl
    have HRM : Hid (roomM ms s = true) := by show _ = _; unfold roomM; rw [ht]; rfl
    rw [hf] at HF
    have hge : decide ((posK LM.nm ms s : Int) ≥ 0) = true := by simp
    clear hb hl hr ht hf
    go_enter Tryd.func31, Tryd.ntmps31
    go_wp2_with (go_at_call 30; refine HF.out.mono ?_; rintro e w' ⟨rfl, rfl⟩)
    go_ret
    exact ⟨by rw [HRM.out]; rfl, rfl⟩
  | false =>
    have hf : findI ms s = -1 := by unfold findI; rw [ht]; rfl
    have HRM : Hid (roomM ms s = decide ((l : Int) < 200)) := by show _ = _; unfold roomM; rw [ht, Bool.false_or]; exact decide_eq_decide.2 (by omega)
    rw [hf] at HF
    clear hb hl hr ht hf
    go_enter Tryd.func31, Tryd.ntmps31
    go_wp2_with (go_at_call 30; refine HF.out.mono ?_; rintro e w' ⟨rfl, rfl⟩)
    go_ret
    exact ⟨by rw [HRM.out]; rfl, rfl⟩

set_option maxRecDepth 100000 in
set_option maxHeartbeats 1000000 in
theorem ref24Without_any (A : Option Addr) (l c : Nat) (ms : List LM) (s : ByteArray) (B : Nat) (w : World) (hl : ms.length = l) (hm : l ≤ 1000000000) (hb : Cells w B A (memCells ms)) (hB : B ≤ w.heap.size) :
    Calls Tryd.prog 33 #[.slice A l c, .string s] w fun e w' => ∃ A' c', e = .returned (.slice A' (outK LM.nm ms s).length c') ∧ w'.ownsRow w.heap.size 32 7 (.slice A' (outK LM.nm ms s).length c') (outK LM.nm ms s).length (memCells (outK LM.nm ms s)) ∧ Below w.heap.size w w' := by
  have HC := Lib.hid hb
  have HFL := Lib.hid (mems_len ms)
  have HL := Lib.hid hl
  have HB := Lib.hid hB
  clear hb hl hB
  go_enter Tryd.func33, Tryd.ntmps33
  go_wp2
  go_loopg [5, 6] l (fun gk v i wr => ∃ k : Nat, ∃ os : List LM, k + gk = l ∧ i = .int .i64 k ∧ os = outK LM.nm (ms.take k) s ∧ wr.ownsRow w.heap.size 32 7 v os.length (memCells os) ∧ Below w.heap.size w wr)
  case atStart => exact ⟨0, [], by omega, rfl, rfl, World.ownsRow_nil _ _ _ _, Below.refl _ _⟩
  case round =>
    obtain ⟨k, os, hk, rfl, hos, hown, hbel⟩ := hrel
    have HOWN := Lib.hid hown
    have HBL := Lib.hid hbel
    have HOS := Lib.hid hos
    clear hown hbel hos
    obtain ⟨Ak, ck, rfl⟩ := own_form' HOWN.out
    by_cases h : k < l
    · obtain ⟨x, hx⟩ : ∃ x, ms[k]? = some x := ⟨_, List.getElem?_eq_getElem (by have := HL.out; omega)⟩
      obtain ⟨b, o, rfl, hbB, hc⟩ := HC.out (by rw [HFL.out]; have := HL.out; omega)
      obtain ⟨c0, c1, c2, c3, c4, c5, c6⟩ := mem_at hbB hc (hBw_below HBL.out HB.out) hx
      have HTK := Lib.hid (take_snoc hx)
      have hw1 : IntKind.i64.wrap ((k : Int) + 1) = (k : Int) + 1 := IntWalk.i64_in _ (by omega)
      obtain ⟨q, hq⟩ : ∃ q, (x.nm.toList == s.toList) = q := ⟨_, rfl⟩
      have HQ := Lib.hid hq
      have hq2 : (x.nm.toList = s.toList) = (q = true) := by rw [← hq, beq_iff_eq]
      have HOL : Hid (os.length ≤ k) := by
        show _ ≤ _
        rw [HOS.out]
        exact Nat.le_trans (List.length_filter_le _ _) (by rw [List.length_take]; omega)
      clear hc hx
      cases q with
      | true =>
        simp only [eq_self, eq_iff_iff, iff_true] at hq2
        go_wp2
        go_roundg (gk - 1)
        case measure => omega
        case rel =>
          refine ⟨k + 1, os, by omega, by go_num, ?_, HOWN.out, HBL.out⟩
          rw [HTK.out, HOS.out]
          unfold outK
          rw [List.filter_append, List.filter_cons_of_neg (by simp [nmEq_of HQ.out]), List.filter_nil, List.append_nil]
      | false =>
        simp only [Bool.false_eq_true, eq_iff_iff, iff_false] at hq2
        have hz0 := HBL.out.size
        have hol := HOL.out
        go_wp2_with (at_builtin; go_must (skip; refine wpList_app1 _ memElem rfl (.tmp 20) (.tmp 25) rfl w.heap.size (.slice Ak os.length ck) os.length _ rfl HOWN.out #[.string x.nm, .int .i64 x.at_, .int .i64 x.fr, .int .i64 x.ar, .int .i64 x.sz, .int .u32 x.su, .int .i64 x.me] rfl rfl (by intro u hu; simp only [List.mem_cons, List.not_mem_nil, or_false] at hu; rcases hu with rfl | rfl | rfl | rfl | rfl | rfl | rfl <;> rfl) (by unfold maxLen; omega) (by omega) hz0 ?_; intro A3 c3 w3 hA; have HA := Lib.hid hA; clear hA))
        go_roundg (gk - 1)
        case measure => omega
        case rel =>
          have e : outK LM.nm (ms.take (k + 1)) s = os ++ [x] := by
            rw [HTK.out, HOS.out]
            unfold outK
            rw [List.filter_append, List.filter_cons_of_pos (by simp [nmEq_not HQ.out]), List.filter_nil]
          have ho := HA.out.own
          refine ⟨k + 1, os ++ [x], by omega, by go_num, e.symm, ?_, HA.out.below HBL.out HBL.out.size (fun q hq => (HOWN.out.lt q hq).1)⟩
          rw [memCells_snoc, List.length_append]
          exact ho
    · obtain rfl : k = l := by omega
      have HK : Hid (outK LM.nm ms s = os) := by show _ = _; rw [HOS.out, List.take_of_length_le (by have := HL.out; omega)]
      go_wp2
      go_ret
      rw [HK.out]
      exact ⟨Ak, ck, rfl, HOWN.out, HBL.out⟩

set_option maxRecDepth 100000 in
set_option maxHeartbeats 4000000 in
theorem ref24With_any (A : Option Addr) (l c : Nat) (ms : List LM) (m : LM) (B : Nat) (w : World) (hl : ms.length = l) (hm : l ≤ 1000000000) (hr : RisM ms) (hb : Cells w B A (memCells ms)) (hB : B ≤ w.heap.size) :
    Calls Tryd.prog 32 #[.slice A l c, aggM m] w fun e w' => ∃ A' c', e = .returned (.slice A' (withK LM.nm ms m).length c') ∧ w'.ownsRow w.heap.size 32 7 (.slice A' (withK LM.nm ms m).length c') (withK LM.nm ms m).length (memCells (withK LM.nm ms m)) ∧ Below w.heap.size w w' := by
  obtain ⟨W0, hW0⟩ : ∃ W0, w.alloc (.cells #[.string m.nm, .int .i64 m.at_, .int .i64 m.fr, .int .i64 m.ar, .int .i64 m.sz, .int .u32 m.su, .int .i64 m.me] 32) = W0 := ⟨_, rfl⟩
  have HB0 : Hid (Below w.heap.size w W0) := by rw [← hW0]; exact (Below.refl _ w).alloc (Nat.le_refl _) _
  have HX0 : Hid (Box W0 w.heap.size #[.string m.nm, .int .i64 m.at_, .int .i64 m.fr, .int .i64 m.ar, .int .i64 m.sz, .int .u32 m.su, .int .i64 m.me] 32) := by rw [← hW0]; exact heap_alloc_new w _
  have HC := Lib.hid (hb.below HB0.out hB)
  have HFL := Lib.hid (mems_len ms)
  have HL := Lib.hid hl
  have HR := Lib.hid hr
  have HB : Hid (B ≤ W0.heap.size) := Nat.le_trans hB HB0.out.size
  clear hb hl hB hr
  go_enter Tryd.func32, Tryd.ntmps32
  go_wp2
  clear hW0
  go_loopg [5, 6, 7] l (fun gk v p i wr => ∃ k : Nat, ∃ pt : Bool, ∃ os : List LM, k + gk = l ∧ i = .int .i64 k ∧ p = .bool pt ∧ os = (if pt then withK LM.nm (ms.take k) m else ms.take k) ∧ (pt = false → ∀ x ∈ ms.take k, ltN x.nm m.nm = true) ∧ (pt = true → ∃ j x, j < k ∧ ms[j]? = some x ∧ ltN x.nm m.nm = false) ∧ wr.ownsRow W0.heap.size 32 7 v os.length (memCells os) ∧ os.length ≤ k + 1 ∧ Below W0.heap.size W0 wr)
  case atStart => exact ⟨0, false, [], by omega, rfl, rfl, rfl, (fun _ x hx => by simp at hx), (fun h => by cases h), World.ownsRow_nil _ _ _ _, Nat.zero_le _, Below.refl _ _⟩
  case round =>
    obtain ⟨k, pt, os, hk, rfl, rfl, hos, hlow, hhi, hown, hol, hbel⟩ := hrel
    have HOWN := Lib.hid hown
    have HBL := Lib.hid hbel
    have HOS := Lib.hid hos
    have HLOW := Lib.hid hlow
    have HHI := Lib.hid hhi
    have HX1 := Lib.hid (HX0.out.below hbel HX0.out.lt)
    obtain ⟨b0, b1, b2, b3, b4, b5, b6, _⟩ := box7 HX1.out
    clear hown hbel hos hlow hhi
    obtain ⟨Ak, ck, rfl⟩ := own_form' HOWN.out
    by_cases h : k < l
    · obtain ⟨x, hx⟩ : ∃ x, ms[k]? = some x := ⟨_, List.getElem?_eq_getElem (by have := HL.out; omega)⟩
      obtain ⟨b, o, rfl, hbB, hc⟩ := HC.out (by rw [HFL.out]; have := HL.out; omega)
      have HMT := Lib.hid (fun W (hW : Below W0.heap.size W0 W) => mem_at hbB hc (hBw_below hW HB.out) hx)
      obtain ⟨c0, c1, c2, c3, c4, c5, c6⟩ := HMT.out wr HBL.out
      have HTK := Lib.hid (take_snoc hx)
      have HX := Lib.hid hx
      have hw1 : IntKind.i64.wrap ((k : Int) + 1) = (k : Int) + 1 := IntWalk.i64_in _ (by omega)
      obtain ⟨W1, hW1⟩ : ∃ W1, wr = W1 := ⟨_, rfl⟩
      clear hc hx
      cases pt with
      | true =>
        obtain ⟨j, y, hj, hy, hjl⟩ := HHI.out rfl
        have HGT : Hid (ltN m.nm x.nm = true) := by
          show _ = _
          have h1 := ris_get HR.out hy HX.out hj
          cases e : ltN m.nm y.nm with
          | true => exact ltN_trans e h1
          | false => rw [ltN_total e hjl]; exact h1
        have HJ := Lib.hid (show ∃ j x, j < k + 1 ∧ ms[j]? = some x ∧ ltN x.nm m.nm = false from ⟨j, y, by omega, hy, hjl⟩)
        have hne : (m.nm.toList == x.nm.toList) = false := by rw [nmEq_dec]; exact decide_eq_false (ltN_ne HGT.out)
        have hne2 : ¬ m.nm.toList = x.nm.toList := by simpa using hne
        clear hy hjl hj
        subst hW1
        go_wp2_with fail
        go_quiet (fail)
        generalize nq = nq1
        go_wp2_with fail
        go_quiet (fail)
        obtain ⟨V, hV⟩ : ∃ V, V = ((wr.drewN nq1).drewN nq) := ⟨_, rfl⟩
        rw [← hV]
        have HOV : Hid (V.ownsRow W0.heap.size 32 7 (.slice Ak os.length ck) os.length (memCells os)) := by show World.ownsRow _ _ _ _ _ _ _; rw [hV]; exact HOWN.out
        have HBV : Hid (Below W0.heap.size W0 V) := by show Below _ _ _; rw [hV]; exact Below.drewN (Below.drewN HBL.out _) _
        clear hV c0 c1 c2 c3 c4 c5 c6 b0 b1 b2 b3 b4 b5 b6
        obtain ⟨c0, c1, c2, c3, c4, c5, c6⟩ := HMT.out V HBV.out
        go_wp2_with (at_builtin; go_must (skip; refine wpList_app1 _ memElem rfl (.tmp 38) (.tmp 43) rfl W0.heap.size (.slice Ak os.length ck) os.length _ rfl HOV.out #[.string x.nm, .int .i64 x.at_, .int .i64 x.fr, .int .i64 x.ar, .int .i64 x.sz, .int .u32 x.su, .int .i64 x.me] rfl rfl (by intro u hu; simp only [List.mem_cons, List.not_mem_nil, or_false] at hu; rcases hu with rfl | rfl | rfl | rfl | rfl | rfl | rfl <;> rfl) (by unfold maxLen; omega) (by omega) HBV.out.size ?_; intro A3 cp3 w3 hA; have HA3 := Lib.hid hA; clear hA))
        go_roundg (gk - 1)
        case measure => omega
        case rel =>
          have ho := HA3.out.own
          refine ⟨k + 1, true, os ++ [x], by omega, by go_num, rfl, ?_, (fun h => by cases h), (fun _ => HJ.out), ?_, by rw [List.length_append, List.length_singleton]; omega, HA3.out.below HBV.out HBV.out.size (fun q hq => (HOV.out.lt q hq).1)⟩
          · have e0 : os = withK LM.nm (ms.take k) m := by simpa using HOS.out
            rw [if_pos rfl, HTK.out, withK_snoc _ HGT.out, e0]
          · rw [memCells_snoc, List.length_append]
            exact ho
      | false =>
        have hos := HOS.out
        replace hos : os = ms.take k := by simpa using hos
        have HOS0 := Lib.hid hos
        clear hos HOS
        have HLO := Lib.hid (HLOW.out rfl)
        obtain ⟨q, hq⟩ : ∃ q, ltN x.nm m.nm = q := ⟨_, rfl⟩
        have hle : (Op.bytesLess m.nm.toList x.nm.toList || m.nm.toList == x.nm.toList) = !q := by rw [← hq]; exact leB_lt _ _
        have HQ := Lib.hid hq
        clear hq HHI HLOW
        subst hW1
        cases q with
        | true =>
          have hne : (m.nm.toList == x.nm.toList) = false := by rw [nmEq_dec]; exact decide_eq_false (fun e => by have := HQ.out; rw [e, ltN_irrefl] at this; cases this)
          have hne2 : ¬ m.nm.toList = x.nm.toList := by simpa using hne
          have hlt0 : Op.bytesLess m.nm.toList x.nm.toList = false := bl_asymm _ _ HQ.out
          clear hle
          go_wp2_with fail
          go_quiet (fail)
          generalize nq = nq1
          go_wp2_with fail
          go_quiet (fail)
          obtain ⟨V, hV⟩ : ∃ V, V = ((wr.drewN nq1).drewN nq) := ⟨_, rfl⟩
          rw [← hV]
          have HOV : Hid (V.ownsRow W0.heap.size 32 7 (.slice Ak os.length ck) os.length (memCells os)) := by show World.ownsRow _ _ _ _ _ _ _; rw [hV]; exact HOWN.out
          have HBV : Hid (Below W0.heap.size W0 V) := by show Below _ _ _; rw [hV]; exact Below.drewN (Below.drewN HBL.out _) _
          clear hV c0 c1 c2 c3 c4 c5 c6 b0 b1 b2 b3 b4 b5 b6
          obtain ⟨c0, c1, c2, c3, c4, c5, c6⟩ := HMT.out V HBV.out
          go_wp2_with (at_builtin; go_must (skip; refine wpList_app1 _ memElem rfl (.tmp 38) (.tmp 43) rfl W0.heap.size (.slice Ak os.length ck) os.length _ rfl HOV.out #[.string x.nm, .int .i64 x.at_, .int .i64 x.fr, .int .i64 x.ar, .int .i64 x.sz, .int .u32 x.su, .int .i64 x.me] rfl rfl (by intro u hu; simp only [List.mem_cons, List.not_mem_nil, or_false] at hu; rcases hu with rfl | rfl | rfl | rfl | rfl | rfl | rfl <;> rfl) (by unfold maxLen; omega) (by omega) HBV.out.size ?_; intro A3 cp3 w3 hA; have HA3 := Lib.hid hA; clear hA))
          go_roundg (gk - 1)
          case measure => omega
          case rel =>
            have ho := HA3.out.own
            refine ⟨k + 1, false, os ++ [x], by omega, by go_num, rfl, ?_, (fun _ y hy => ?_), (fun h => by cases h), ?_, by rw [List.length_append, List.length_singleton]; omega, HA3.out.below HBV.out HBV.out.size (fun q hq => (HOV.out.lt q hq).1)⟩
            · rw [if_neg (by decide), HTK.out, HOS0.out]
            · rw [HTK.out] at hy
              rcases List.mem_append.1 hy with hy | hy
              · exact HLO.out y hy
              · rw [List.mem_singleton.1 hy]; exact HQ.out
            · rw [memCells_snoc, List.length_append]
              exact ho
        | false =>
          have HJ := Lib.hid (show ∃ j x, j < k + 1 ∧ ms[j]? = some x ∧ ltN x.nm m.nm = false from ⟨k, x, by omega, HX.out, HQ.out⟩)
          obtain ⟨q2, hq2⟩ : ∃ q2, (m.nm.toList == x.nm.toList) = q2 := ⟨_, rfl⟩
          have HQ2 := Lib.hid hq2
          clear hle
          cases q2 with
          | true =>
            have heq2 : m.nm.toList = x.nm.toList := by simpa using hq2
            have HXM : Hid (x.nm = m.nm) := (nmEq_of HQ2.out).symm
            have hlt0 : Op.bytesLess m.nm.toList x.nm.toList = false := by rw [heq2]; exact bl_irrefl _
            have hlt1 : Op.bytesLess x.nm.toList x.nm.toList = false := bl_irrefl _
            go_wp2_with fail
            go_quiet (fail)
            generalize nq = nq1
            obtain ⟨V, hV⟩ : ∃ V, V = (wr.drewN nq1) := ⟨_, rfl⟩
            rw [← hV]
            have HOV : Hid (V.ownsRow W0.heap.size 32 7 (.slice Ak os.length ck) os.length (memCells os)) := by show World.ownsRow _ _ _ _ _ _ _; rw [hV]; exact HOWN.out
            have HBV : Hid (Below W0.heap.size W0 V) := by show Below _ _ _; rw [hV]; exact Below.drewN HBL.out _
            have HXV := Lib.hid (HX0.out.below HBV.out HX0.out.lt)
            clear hV c0 c1 c2 c3 c4 c5 c6 b0 b1 b2 b3 b4 b5 b6
            obtain ⟨c0, c1, c2, c3, c4, c5, c6⟩ := HMT.out V HBV.out
            obtain ⟨b0, b1, b2, b3, b4, b5, b6, _⟩ := box7 HXV.out
            go_wp2_with (at_builtin; go_must (skip; refine wpList_app1 _ memElem rfl (.tmp 26) (.tmp 28) rfl W0.heap.size (.slice Ak os.length ck) os.length _ rfl HOV.out #[.string m.nm, .int .i64 m.at_, .int .i64 m.fr, .int .i64 m.ar, .int .i64 m.sz, .int .u32 m.su, .int .i64 m.me] rfl rfl (by intro u hu; simp only [List.mem_cons, List.not_mem_nil, or_false] at hu; rcases hu with rfl | rfl | rfl | rfl | rfl | rfl | rfl <;> rfl) (by unfold maxLen; omega) (by omega) HBV.out.size ?_; intro A3 cp3 w3 hA; have HA3 := Lib.hid hA; clear hA))
            have HB3 := Lib.hid (HA3.out.below HBV.out HBV.out.size (fun q hq => (HOV.out.lt q hq).1))
            have HX3 := Lib.hid (HX0.out.below HB3.out HX0.out.lt)
            clear c0 c1 c2 c3 c4 c5 c6 b0 b1 b2 b3 b4 b5 b6
            obtain ⟨d0, d1, d2, d3, d4, d5, d6⟩ := HMT.out w3 HB3.out
            obtain ⟨b0, b1, b2, b3, b4, b5, b6, _⟩ := box7 HX3.out
            go_wp2_with fail
            go_quiet (fail)
            go_wp2
            go_roundg (gk - 1)
            case measure => omega
            case rel =>
              have ho := HA3.out.own
              have he : os ++ [m] = withK LM.nm (ms.take (k + 1)) m := by
                rw [HTK.out, withK_same (fun y hy => HLO.out y hy) HXM.out, HOS0.out]
              refine ⟨k + 1, true, os ++ [m], by omega, by go_num, rfl, by rw [if_pos rfl]; exact he, (fun h => by cases h), (fun _ => HJ.out), ?_, by rw [List.length_append, List.length_singleton]; omega, Below.drewN HB3.out _⟩
              rw [memCells_snoc, List.length_append]
              exact ho
          | false =>
            have hne2 : ¬ m.nm.toList = x.nm.toList := by simpa using hq2
            have HMX : Hid (ltN m.nm x.nm = true) := ltN_gt HQ.out (fun e => by rw [e] at hne2; exact hne2 rfl)
            have hlt0 : Op.bytesLess m.nm.toList x.nm.toList = true := HMX.out
            go_wp2_with fail
            go_quiet (fail)
            generalize nq = nq1
            obtain ⟨V, hV⟩ : ∃ V, V = (wr.drewN nq1) := ⟨_, rfl⟩
            rw [← hV]
            have HOV : Hid (V.ownsRow W0.heap.size 32 7 (.slice Ak os.length ck) os.length (memCells os)) := by show World.ownsRow _ _ _ _ _ _ _; rw [hV]; exact HOWN.out
            have HBV : Hid (Below W0.heap.size W0 V) := by show Below _ _ _; rw [hV]; exact Below.drewN HBL.out _
            have HXV := Lib.hid (HX0.out.below HBV.out HX0.out.lt)
            clear hV c0 c1 c2 c3 c4 c5 c6 b0 b1 b2 b3 b4 b5 b6
            obtain ⟨c0, c1, c2, c3, c4, c5, c6⟩ := HMT.out V HBV.out
            obtain ⟨b0, b1, b2, b3, b4, b5, b6, _⟩ := box7 HXV.out
            go_wp2_with (at_builtin; go_must (skip; refine wpList_app1 _ memElem rfl (.tmp 26) (.tmp 28) rfl W0.heap.size (.slice Ak os.length ck) os.length _ rfl HOV.out #[.string m.nm, .int .i64 m.at_, .int .i64 m.fr, .int .i64 m.ar, .int .i64 m.sz, .int .u32 m.su, .int .i64 m.me] rfl rfl (by intro u hu; simp only [List.mem_cons, List.not_mem_nil, or_false] at hu; rcases hu with rfl | rfl | rfl | rfl | rfl | rfl | rfl <;> rfl) (by unfold maxLen; omega) (by omega) HBV.out.size ?_; intro A3 cp3 w3 hA; have HA3 := Lib.hid hA; clear hA))
            have HB3 := Lib.hid (HA3.out.below HBV.out HBV.out.size (fun q hq => (HOV.out.lt q hq).1))
            have HX3 := Lib.hid (HX0.out.below HB3.out HX0.out.lt)
            clear c0 c1 c2 c3 c4 c5 c6 b0 b1 b2 b3 b4 b5 b6
            obtain ⟨d0, d1, d2, d3, d4, d5, d6⟩ := HMT.out w3 HB3.out
            obtain ⟨b0, b1, b2, b3, b4, b5, b6, _⟩ := box7 HX3.out
            go_wp2_with fail
            go_quiet (fail)
            obtain ⟨V2, hV2⟩ : ∃ V2, V2 = (w3.drewN nq) := ⟨_, rfl⟩
            rw [← hV2]
            have HO2 : Hid (V2.ownsRow W0.heap.size 32 7 (.slice A3 (os.length + 1) cp3) (os.length + 1) (memCells (os ++ [m]))) := by show World.ownsRow _ _ _ _ _ _ _; rw [hV2, memCells_snoc]; exact HA3.out.own
            have HBV2 : Hid (Below W0.heap.size W0 V2) := by show Below _ _ _; rw [hV2]; exact Below.drewN HB3.out _
            clear hV2 d0 d1 d2 d3 d4 d5 d6 b0 b1 b2 b3 b4 b5 b6
            obtain ⟨c0, c1, c2, c3, c4, c5, c6⟩ := HMT.out V2 HBV2.out
            go_wp2_with (at_builtin; go_must (skip; refine wpList_app1 _ memElem rfl (.tmp 38) (.tmp 43) rfl W0.heap.size (.slice A3 (os.length + 1) cp3) (os.length + 1) _ rfl HO2.out #[.string x.nm, .int .i64 x.at_, .int .i64 x.fr, .int .i64 x.ar, .int .i64 x.sz, .int .u32 x.su, .int .i64 x.me] rfl rfl (by intro u hu; simp only [List.mem_cons, List.not_mem_nil, or_false] at hu; rcases hu with rfl | rfl | rfl | rfl | rfl | rfl | rfl <;> rfl) (by unfold maxLen; omega) (by omega) HBV2.out.size ?_; intro A5 cp5 w5 hA; have HA5 := Lib.hid hA; clear hA))
            go_roundg (gk - 1)
            case measure => omega
            case rel =>
              have ho := HA5.out.own
              have he : os ++ [m] ++ [x] = withK LM.nm (ms.take (k + 1)) m := by
                rw [HTK.out, withK_snoc _ HMX.out, withK_all (fun y hy => HLO.out y hy), HOS0.out]
              refine ⟨k + 1, true, os ++ [m] ++ [x], by omega, by go_num, rfl, by rw [if_pos rfl]; exact he, (fun h => by cases h), (fun _ => HJ.out), ?_, by have hl := congrArg List.length HOS0.out; rw [List.length_take] at hl; rw [List.length_append, List.length_append, List.length_singleton, List.length_singleton]; omega, HA5.out.below HBV2.out HBV2.out.size (fun q hq => (HO2.out.lt q hq).1)⟩
              rw [memCells_snoc, List.length_append, List.length_append]
              exact ho
    · obtain rfl : k = l := by omega
      have HTA : Hid (ms.take k = ms) := by show _ = _; rw [List.take_of_length_le (by have := HL.out; omega)]
      cases pt with
      | true =>
        have HE : Hid (withK LM.nm ms m = os) := by show _ = _; have := HOS.out; rw [HTA.out] at this; simpa using this.symm
        go_wp2
        go_ret
        rw [HE.out]
        exact ⟨Ak, ck, rfl, own_low HOWN.out HB0.out.size, HB0.out.trans (HBL.out.mono HB0.out.size)⟩
      | false =>
        have HE : Hid (withK LM.nm ms m = os ++ [m]) := by
          show _ = _
          have := HOS.out
          rw [HTA.out] at this
          have h2 := HLOW.out rfl
          rw [HTA.out] at h2
          rw [withK_all h2]
          simpa using this.symm
        go_wp2_with (at_builtin; go_must (skip; refine wpList_app1 _ memElem rfl (.tmp 47) (.tmp 49) rfl W0.heap.size (.slice Ak os.length ck) os.length _ rfl HOWN.out #[.string m.nm, .int .i64 m.at_, .int .i64 m.fr, .int .i64 m.ar, .int .i64 m.sz, .int .u32 m.su, .int .i64 m.me] rfl rfl (by intro u hu; simp only [List.mem_cons, List.not_mem_nil, or_false] at hu; rcases hu with rfl | rfl | rfl | rfl | rfl | rfl | rfl <;> rfl) (by unfold maxLen; omega) (by omega) HBL.out.size ?_; intro A3 cp3 w3 hA; have HA3 := Lib.hid hA; clear hA))
        go_ret
        rw [HE.out]
        refine ⟨A3, cp3, by rw [List.length_append]; rfl, ?_, HB0.out.trans ((HA3.out.below HBL.out HBL.out.size (fun q hq => (HOWN.out.lt q hq).1)).mono HB0.out.size)⟩
        rw [memCells_snoc, List.length_append]
        exact own_low HA3.out.own HB0.out.size
end Go.Proofs.YtjoifgeljjgflaaDoor
/- Layer 24: a call of an index held against the reference's. -/
namespace Go.Proofs.YtjoifgeljjgflaaDoor
open Go.RowKit
attribute [local go_sem ↓] Go.wp_at_zero Go.wp_at_succ

theorem box9 {w : World} {g : Nat} {a b c d e f h i j : Value} {t : TypeId} (H : Box w g #[a, b, c, d, e, f, h, i, j] t) : w.cell? ⟨g, 0, none⟩ = some a ∧ w.cell? ⟨g, 1, none⟩ = some b ∧ w.cell? ⟨g, 2, none⟩ = some c ∧ w.cell? ⟨g, 3, none⟩ = some d ∧ w.cell? ⟨g, 4, none⟩ = some e ∧ w.cell? ⟨g, 5, none⟩ = some f ∧ w.cell? ⟨g, 6, none⟩ = some h ∧ w.cell? ⟨g, 7, none⟩ = some i ∧ w.cell? ⟨g, 8, none⟩ = some j :=
  ⟨H.cell 0, H.cell 1, H.cell 2, H.cell 3, H.cell 4, H.cell 5, H.cell 6, H.cell 7, H.cell 8⟩
/-- A list lies apart from an index's own blocks. -/
def Apart (w : World) (g : Nat) (A : Option Addr) (n c : Nat) (An : Option Addr) (xs : List Value) : Prop := 0 < xs.length → ∃ b o, An = some ⟨b, o, none⟩ ∧ ¬ ixS g A n c b ∧ b < w.heap.size
theorem Cells.apart {w w' : World} {g : Nat} {A : Option Addr} {n c : Nat} {An : Option Addr} {xs : List Value} {B : Nat} (h : Cells w B An xs) (ha : Apart w g A n c An xs) (hm : Mod (ixS g A n c) w w') : Cells w' B An xs := fun hp => by
  obtain ⟨b, o, e, hb, hc⟩ := h hp
  obtain ⟨b', o', e', hn, hl⟩ := ha hp
  rw [e] at e'
  injection e' with e'
  injection e' with e1 e2
  subst e1 e2
  exact ⟨b, o, e, hb, fun j u hj => by
    rw [← hc j u hj]
    exact World.cell?_of_block (a := ⟨b, o + j, none⟩) (hm.block b hl hn)⟩
theorem Apart.to {w w' : World} {base g : Nat} {A A' : Option Addr} {n c c' : Nat} {ms' : List LM} {An : Option Addr} {xs : List Value} (ha : Apart w g A n c An xs) (h : IxTo w base g A n c ms' w' A' c') : Apart w' g A' ms'.length c' An xs := fun hp => by
  obtain ⟨b, o, e, hn, hl⟩ := ha hp
  refine ⟨b, o, e, fun hk => ?_, Nat.lt_of_lt_of_le hl h.mod.size⟩
  rcases hk with hk | hk
  · exact hn (.inl hk)
  · rcases h.place b hk with h1 | h1
    · exact hn (.inr h1)
    · omega
theorem Apart.below {w w' : World} {g : Nat} {A : Option Addr} {n c : Nat} {An : Option Addr} {xs : List Value} {B : Nat} (ha : Apart w g A n c An xs) (h : Below B w w') : Apart w' g A n c An xs := fun hp => by
  obtain ⟨b, o, e, hn, hl⟩ := ha hp
  exact ⟨b, o, e, hn, Nat.lt_of_lt_of_le hl h.size⟩
/-- A row of the call's own that was made later than the index. -/
theorem Apart.new {w w' : World} {base g : Nat} {A : Option Addr} {c : Nat} {ms : List LM} (hx : LX w base g A c ms) {b : Nat} {An : Option Addr} {n cn : Nat} {xs : List Value} (ho : w'.ownsRow b 32 7 (.slice An n cn) n xs) (hb : w.heap.size ≤ b) : Apart w' g A ms.length c An xs := fun hp => by
  rcases ownK_form ho with ⟨_, h0⟩ | ⟨g', c', he⟩
  · have := ho.1; rw [h0] at this; omega
  · injection he with h1 _ _
    subst h1
    have := ho.lt g' rfl
    exact ⟨g', 0, rfl, fun hk => by have := (hx.lts g' hk).1; omega, this.2⟩
theorem own_cells7 {w : World} {b : Nat} {e : TypeId} {An : Option Addr} {n cn : Nat} {xs : List Value} (ho : w.ownsRow b e 7 (.slice An n cn) n xs) : Cells w w.heap.size An xs := fun hp => by
  rcases ownK_form ho with ⟨_, h0⟩ | ⟨g', c', he⟩
  · have := ho.1; rw [h0] at this; omega
  · injection he with hA _ hc
    subst hA hc
    obtain ⟨cur, hg, htk, _, _, _, _, hxl⟩ := ownK_row ho
    refine ⟨g', 0, rfl, (Array.getElem?_eq_some_iff.1 hg).1, fun j u hj => ?_⟩
    have := seg_cells hg 0 xs (by rw [List.drop_zero, hxl]; exact htk) j u hj
    rw [Addr.add_lit] at this
    exact this
/-- Behind a call: the index has these members, and so has the list; nothing else that there was has changed but the index's blocks. -/
structure DoTo (w : World) (base g : Nat) (A : Option Addr) (c : Nat) (ms ms' : List LM) (w' : World) (A' : Option Addr) (c' : Nat) (An' : Option Addr) : Prop where
  ixto : IxTo w base g A ms.length c ms' w' A' c'
  cells : Cells w' w'.heap.size An' (memCells ms')
  apart : Apart w' g A' ms'.length c' An' (memCells ms')
/-- What a call leaves. -/
def stepM (ms : List LM) (k : Int) (m : LM) (s : ByteArray) : List LM := if k = 0 then (if m.B && roomM ms m.nm then withK LM.nm ms m else ms) else if k = 1 then outK LM.nm ms s else ms

/-- Members that an index may have. -/
structure GoodL (ms : List LM) : Prop where
  ris : RisM ms
  len : ms.length ≤ 200
  all : ∀ m ∈ ms, m.B = true ∧ m.Ok
theorem GoodL.rows {ms : List LM} (h : GoodL ms) : rowsM ms ≤ 16400 := by
  have := rowsM_le (ms := ms) (n := 64) (fun m hm => by
    have h2 := (h.all m hm).1
    unfold LM.B memB at h2
    simp only [Bool.and_eq_true] at h2
    exact (rightB_size h2.1.1.1.1.1).2)
  have := h.len
  omega
theorem GoodL.step {ms : List LM} (h : GoodL ms) (k : Int) (m : LM) (s : ByteArray) (hm : m.Ok) : GoodL (stepM ms k m s) := by
  unfold stepM
  split
  · split
    · rename_i hc
      rw [Bool.and_eq_true] at hc
      refine ⟨h.ris.withK m, ?_, fun x hx => ?_⟩
      · cases hh : hasK LM.nm ms m.nm with
        | true => rw [len_withK_there h.ris m hh]; exact h.len
        | false =>
          rw [len_withK_new h.ris m hh]
          have := hc.2
          unfold roomM at this
          rw [hh] at this
          simp at this
          omega
      · rcases mem_withK hx with rfl | hx
        · exact ⟨hc.1, hm⟩
        · exact h.all x hx
    · exact h
  · split
    · refine ⟨h.ris.outK s, Nat.le_trans (List.length_filter_le _ _) h.len, fun x hx => h.all x (mem_outK hx)⟩
    · exact h
theorem IxTo.undrew {w : World} {k base g : Nat} {A : Option Addr} {n c : Nat} {ms' : List LM} {w' : World} {A' : Option Addr} {c' : Nat} (h : IxTo (w.drewN k) base g A n c ms' w' A' c') : IxTo w base g A n c ms' w' A' c' := ⟨h.ix, ⟨h.mod.os, h.mod.tape, h.mod.output, h.mod.size, h.mod.block⟩, h.place⟩
theorem below_undrew {w w' : World} {k : Nat} (h : Below (w.drewN k).heap.size (w.drewN k) w') : Below w.heap.size w w' := ⟨h.os, h.tape, h.output, h.size, h.block⟩
theorem DoTo.mk_row {w W0 w1 w2 : World} {base g : Nat} {A A' : Option Addr} {c c' : Nat} {ms ms' : List LM} {An : Option Addr} {n cn : Nat} (h0 : Below w.heap.size w W0) (h1 : IxTo W0 base g A ms.length c ms' w1 A' c') (h2 : Below w1.heap.size w1 w2) (ho : w2.ownsRow w1.heap.size 32 7 (.slice An n cn) n (memCells ms')) : DoTo w base g A c ms ms' w2 A' c' An := by
  have hm : Mod (ixS g A ms.length c) w w2 := (((Mod.of_below h0).mono (T := ixS g A ms.length c) (fun _ hk => hk.elim)).then_ h1.mod).then_ ((Mod.of_below h2).mono (fun _ hk => hk.elim))
  refine ⟨⟨h1.ix.below h2 rfl, hm, fun k hk => ?_⟩, own_cells7 ho, Apart.new h1.ix ho (Nat.le_refl _)⟩
  rcases h1.place k hk with h | h
  · exact .inl h
  · exact .inr (Nat.le_trans h0.size h)
theorem findI_no {ms : List LM} {s : ByteArray} (h : hasK LM.nm ms s = false) : findI ms s = -1 := by unfold findI; rw [h]; rfl
theorem findI_yes {ms : List LM} {s : ByteArray} (h : hasK LM.nm ms s = true) : findI ms s = (posK LM.nm ms s : Int) := by unfold findI; rw [h]; rfl

set_option linter.unusedSimpArgs false in
set_option maxRecDepth 100000 in
set_option maxHeartbeats 4000000 in
theorem does0_bad (base g : Nat) (A : Option Addr) (c : Nat) (ms : List LM) (An : Option Addr) (cn : Nat) (B : Nat) (m : LM) (s : ByteArray) (w : World) (h : LX w base g A c ms) (hg : GoodL ms) (hm : m.nm.size ≤ maxLen) (hfr : -9223372036854775808 ≤ m.fr ∧ m.fr ≤ 9223372036854775807) (hb : Cells w B An (memCells ms)) (hB : B ≤ w.heap.size) (ha : Apart w g A ms.length c An (memCells ms)) (hbase : base ≤ w.heap.size) (ht : m.B = false) :
    Calls Tryd.prog 11 #[.pointer (some ⟨g, 0, none⟩), .slice An ms.length cn, .agg #[.int .i64 0, .string m.nm, .int .i64 m.at_, .int .i64 m.fr, .int .i64 m.ar, .int .i64 m.sz, .int .u32 m.su, .int .i64 m.me, .string s]] w fun e w' => ∃ A' c' An' cn', e = .returned (.tuple #[.bool true, .slice An' (ms).length cn']) ∧ DoTo w base g A c ms (ms) w' A' c' An' := by
  obtain ⟨W0, hW0⟩ : ∃ W0, w.alloc (.cells #[.int .i64 0, .string m.nm, .int .i64 m.at_, .int .i64 m.fr, .int .i64 m.ar, .int .i64 m.sz, .int .u32 m.su, .int .i64 m.me, .string s] 34) = W0 := ⟨_, rfl⟩
  have HB0 : Hid (Below w.heap.size w W0) := by rw [← hW0]; exact (Below.refl _ w).alloc (Nat.le_refl _) _
  have HX0 : Hid (Box W0 w.heap.size #[.int .i64 0, .string m.nm, .int .i64 m.at_, .int .i64 m.fr, .int .i64 m.ar, .int .i64 m.sz, .int .u32 m.su, .int .i64 m.me, .string s] 34) := by rw [← hW0]; exact heap_alloc_new w _
  have HH := Lib.hid (h.below HB0.out rfl)
  have HC := Lib.hid (hb.below HB0.out hB)
  have HAP := Lib.hid (ha.below HB0.out)
  have HF := Lib.hid (ref24Find_any An ms.length cn ms s B W0 rfl (by have := hg.len; omega) hg.ris HC.out)
  have HBB : Hid (B ≤ W0.heap.size) := Nat.le_trans hB HB0.out.size
  have HBS : Hid (base ≤ W0.heap.size) := Nat.le_trans hbase HB0.out.size
  have HGL := Lib.hid hg
  have HST : Hid (∀ {w' : World}, Below W0.heap.size W0 w' → DoTo w base g A c ms ms w' A c An) := fun hb' => ⟨IxTo.stay h (HB0.out.trans (hb'.mono HB0.out.size)), (HC.out.below hb' HBB.out).more (Nat.le_trans HBB.out hb'.size), HAP.out.below hb'⟩
  have HIX0 := Lib.hid h
  have HNB0 : Hid (¬ ixS g A ms.length c w.heap.size) := fun hk => by have := (h.lts _ hk).1; omega
  obtain ⟨y0, y1, y2, y3, y4, y5, y6, y7, y8⟩ := box9 HX0.out
  have HP := Lib.hid (ixPut_bad g m W0 hm ht)
  have HR := Lib.hid (fun W => refEn_any m.nm m.at_ m.fr m.ar m.sz m.su m.me W hm hfr.1 hfr.2)
  rw [show memB m.nm m.at_ m.fr m.ar m.sz m.me = false from ht] at HR
  clear h hb hB ha hbase hg
  go_enter Tryd.func11, Tryd.ntmps11
  go_wp2_with (go_at_call 30; refine HF.out.mono ?_; rintro e w' ⟨rfl, rfl⟩; clear HF)
  go_wp2_with (first
    | (go_at_call 22; refine HP.out.mono ?_; rintro e w1 ⟨rfl, hbel⟩; have HB1 := Lib.hid hbel; have HX1 := Lib.hid (HX0.out.below hbel HX0.out.lt); obtain ⟨z0, z1, z2, z3, z4, z5, z6, z7, z8⟩ := box9 HX1.out; clear hbel HP)
    | (go_at_call 29; refine (HR.out _).mono ?_; rintro e w2 ⟨rfl, hbel⟩; have HB2 := Lib.hid (HB1.out.trans (hbel.mono HB1.out.size)); clear hbel HR))
  go_ret2
  exact ⟨_, _, _, _, rfl, HST.out HB2.out⟩

set_option linter.unusedSimpArgs false in
set_option maxRecDepth 100000 in
set_option maxHeartbeats 4000000 in
theorem does0_full (base g : Nat) (A : Option Addr) (c : Nat) (ms : List LM) (An : Option Addr) (cn : Nat) (B : Nat) (m : LM) (s : ByteArray) (w : World) (h : LX w base g A c ms) (hg : GoodL ms) (hm : m.nm.size ≤ maxLen) (hfr : -9223372036854775808 ≤ m.fr ∧ m.fr ≤ 9223372036854775807) (hb : Cells w B An (memCells ms)) (hB : B ≤ w.heap.size) (ha : Apart w g A ms.length c An (memCells ms)) (hbase : base ≤ w.heap.size) (ht : m.B = true) (hr : roomM ms m.nm = false) :
    Calls Tryd.prog 11 #[.pointer (some ⟨g, 0, none⟩), .slice An ms.length cn, .agg #[.int .i64 0, .string m.nm, .int .i64 m.at_, .int .i64 m.fr, .int .i64 m.ar, .int .i64 m.sz, .int .u32 m.su, .int .i64 m.me, .string s]] w fun e w' => ∃ A' c' An' cn', e = .returned (.tuple #[.bool true, .slice An' (ms).length cn']) ∧ DoTo w base g A c ms (ms) w' A' c' An' := by
  obtain ⟨W0, hW0⟩ : ∃ W0, w.alloc (.cells #[.int .i64 0, .string m.nm, .int .i64 m.at_, .int .i64 m.fr, .int .i64 m.ar, .int .i64 m.sz, .int .u32 m.su, .int .i64 m.me, .string s] 34) = W0 := ⟨_, rfl⟩
  have HB0 : Hid (Below w.heap.size w W0) := by rw [← hW0]; exact (Below.refl _ w).alloc (Nat.le_refl _) _
  have HX0 : Hid (Box W0 w.heap.size #[.int .i64 0, .string m.nm, .int .i64 m.at_, .int .i64 m.fr, .int .i64 m.ar, .int .i64 m.sz, .int .u32 m.su, .int .i64 m.me, .string s] 34) := by rw [← hW0]; exact heap_alloc_new w _
  have HH := Lib.hid (h.below HB0.out rfl)
  have HC := Lib.hid (hb.below HB0.out hB)
  have HAP := Lib.hid (ha.below HB0.out)
  have HF := Lib.hid (ref24Find_any An ms.length cn ms s B W0 rfl (by have := hg.len; omega) hg.ris HC.out)
  have HBB : Hid (B ≤ W0.heap.size) := Nat.le_trans hB HB0.out.size
  have HBS : Hid (base ≤ W0.heap.size) := Nat.le_trans hbase HB0.out.size
  have HGL := Lib.hid hg
  have HST : Hid (∀ {w' : World}, Below W0.heap.size W0 w' → DoTo w base g A c ms ms w' A c An) := fun hb' => ⟨IxTo.stay h (HB0.out.trans (hb'.mono HB0.out.size)), (HC.out.below hb' HBB.out).more (Nat.le_trans HBB.out hb'.size), HAP.out.below hb'⟩
  have HIX0 := Lib.hid h
  have HNB0 : Hid (¬ ixS g A ms.length c w.heap.size) := fun hk => by have := (h.lts _ hk).1; omega
  obtain ⟨y0, y1, y2, y3, y4, y5, y6, y7, y8⟩ := box9 HX0.out
  have HP := Lib.hid (ixPut_full base g A c ms m W0 HH.out hm ht hr)
  have HR := Lib.hid (fun W => refEn_any m.nm m.at_ m.fr m.ar m.sz m.su m.me W hm hfr.1 hfr.2)
  rw [show memB m.nm m.at_ m.fr m.ar m.sz m.me = true from ht] at HR
  have HRM := Lib.hid (fun W (hW : Below W0.heap.size W0 W) => ref24Room_any An ms.length cn ms m.nm B W rfl (by have := hg.len; omega) hg.ris (HC.out.below hW HBB.out))
  rw [hr] at HRM
  clear h hb hB ha hbase hg
  go_enter Tryd.func11, Tryd.ntmps11
  go_wp2_with (go_at_call 30; refine HF.out.mono ?_; rintro e w' ⟨rfl, rfl⟩; clear HF)
  go_wp2_with (first
    | (go_at_call 22; refine HP.out.mono ?_; rintro e w1 ⟨rfl, hbel⟩; have HB1 := Lib.hid hbel; have HX1 := Lib.hid (HX0.out.below hbel HX0.out.lt); obtain ⟨z0, z1, z2, z3, z4, z5, z6, z7, z8⟩ := box9 HX1.out; clear hbel HP)
    | (go_at_call 29; refine (HR.out _).mono ?_; rintro e w2 ⟨rfl, hbel⟩; have HB2 := Lib.hid (HB1.out.trans (hbel.mono HB1.out.size)); have HX2 := Lib.hid (HX1.out.below hbel HX1.out.lt); obtain ⟨v0, v1, v2, v3, v4, v5, v6, v7, v8⟩ := box9 HX2.out; clear hbel HR)
    | (go_at_call 31; refine (HRM.out _ HB2.out).mono ?_; rintro e w3 ⟨rfl, rfl⟩; clear HRM))
  go_ret2
  exact ⟨_, _, _, _, rfl, HST.out HB2.out⟩

set_option linter.unusedSimpArgs false in
set_option maxRecDepth 100000 in
set_option maxHeartbeats 4000000 in
theorem does0_ok (base g : Nat) (A : Option Addr) (c : Nat) (ms : List LM) (An : Option Addr) (cn : Nat) (B : Nat) (m : LM) (s : ByteArray) (w : World) (h : LX w base g A c ms) (hg : GoodL ms) (hm : m.nm.size ≤ maxLen) (hfr : -9223372036854775808 ≤ m.fr ∧ m.fr ≤ 9223372036854775807) (hb : Cells w B An (memCells ms)) (hB : B ≤ w.heap.size) (ha : Apart w g A ms.length c An (memCells ms)) (hbase : base ≤ w.heap.size) (ht : m.B = true) (hr : roomM ms m.nm = true) :
    Calls Tryd.prog 11 #[.pointer (some ⟨g, 0, none⟩), .slice An ms.length cn, .agg #[.int .i64 0, .string m.nm, .int .i64 m.at_, .int .i64 m.fr, .int .i64 m.ar, .int .i64 m.sz, .int .u32 m.su, .int .i64 m.me, .string s]] w fun e w' => ∃ A' c' An' cn', e = .returned (.tuple #[.bool true, .slice An' (withK LM.nm ms m).length cn']) ∧ DoTo w base g A c ms (withK LM.nm ms m) w' A' c' An' := by
  obtain ⟨W0, hW0⟩ : ∃ W0, w.alloc (.cells #[.int .i64 0, .string m.nm, .int .i64 m.at_, .int .i64 m.fr, .int .i64 m.ar, .int .i64 m.sz, .int .u32 m.su, .int .i64 m.me, .string s] 34) = W0 := ⟨_, rfl⟩
  have HB0 : Hid (Below w.heap.size w W0) := by rw [← hW0]; exact (Below.refl _ w).alloc (Nat.le_refl _) _
  have HX0 : Hid (Box W0 w.heap.size #[.int .i64 0, .string m.nm, .int .i64 m.at_, .int .i64 m.fr, .int .i64 m.ar, .int .i64 m.sz, .int .u32 m.su, .int .i64 m.me, .string s] 34) := by rw [← hW0]; exact heap_alloc_new w _
  have HH := Lib.hid (h.below HB0.out rfl)
  have HC := Lib.hid (hb.below HB0.out hB)
  have HAP := Lib.hid (ha.below HB0.out)
  have HF := Lib.hid (ref24Find_any An ms.length cn ms s B W0 rfl (by have := hg.len; omega) hg.ris HC.out)
  have HBB : Hid (B ≤ W0.heap.size) := Nat.le_trans hB HB0.out.size
  have HBS : Hid (base ≤ W0.heap.size) := Nat.le_trans hbase HB0.out.size
  have HGL := Lib.hid hg
  have HST : Hid (∀ {w' : World}, Below W0.heap.size W0 w' → DoTo w base g A c ms ms w' A c An) := fun hb' => ⟨IxTo.stay h (HB0.out.trans (hb'.mono HB0.out.size)), (HC.out.below hb' HBB.out).more (Nat.le_trans HBB.out hb'.size), HAP.out.below hb'⟩
  have HIX0 := Lib.hid h
  have HNB0 : Hid (¬ ixS g A ms.length c w.heap.size) := fun hk => by have := (h.lts _ hk).1; omega
  obtain ⟨y0, y1, y2, y3, y4, y5, y6, y7, y8⟩ := box9 HX0.out
  have HP := Lib.hid (ixPut_any base g A c ms m W0 HH.out hm ht hr HBS.out)
  have HR := Lib.hid (fun W => refEn_any m.nm m.at_ m.fr m.ar m.sz m.su m.me W hm hfr.1 hfr.2)
  rw [show memB m.nm m.at_ m.fr m.ar m.sz m.me = true from ht] at HR
  have HRM := Lib.hid (fun W (hW : Cells W B An (memCells ms)) => ref24Room_any An ms.length cn ms m.nm B W rfl (by have := hg.len; omega) hg.ris hW)
  rw [hr] at HRM
  have HWT := Lib.hid (fun W (hW : Cells W B An (memCells ms)) (hB : B ≤ W.heap.size) => ref24With_any An ms.length cn ms m B W rfl (by have := hg.len; omega) hg.ris hW hB)
  clear h hb hB ha hbase hg
  go_enter Tryd.func11, Tryd.ntmps11
  go_wp2_with (go_at_call 30; refine HF.out.mono ?_; rintro e w' ⟨rfl, rfl⟩; clear HF)
  go_wp2_with (first
    | (go_at_call 22; refine HP.out.mono ?_; rintro e w1 ⟨A1, c1, rfl, hix⟩; have HI1 := Lib.hid hix; have HC1 := Lib.hid (HC.out.apart HAP.out hix.mod); have HX1 := Lib.hid (HX0.out.mod hix.mod HNB0.out); obtain ⟨z0, z1, z2, z3, z4, z5, z6, z7, z8⟩ := box9 HX1.out; clear hix HP)
    | (go_at_call 29; refine (HR.out _).mono ?_; rintro e w2 ⟨rfl, hbel⟩; have HB2 := Lib.hid hbel; have HC2 := Lib.hid (HC1.out.below hbel (Nat.le_trans HBB.out HI1.out.mod.size)); have HX2 := Lib.hid (HX1.out.below hbel HX1.out.lt); obtain ⟨v0, v1, v2, v3, v4, v5, v6, v7, v8⟩ := box9 HX2.out; clear hbel HR)
    | (go_at_call 31; refine (HRM.out _ HC2.out).mono ?_; rintro e w3 ⟨rfl, rfl⟩; clear HRM)
    | (go_at_call 32; refine (HWT.out _ HC2.out (Nat.le_trans HBB.out (Nat.le_trans HI1.out.mod.size HB2.out.size))).mono ?_; rintro e w4 ⟨An4, cn4, rfl, hown, hbel⟩; have HO4 := Lib.hid hown; have HB4 := Lib.hid hbel; clear hown hbel HWT))
  go_ret2
  exact ⟨A1, c1, An4, cn4, rfl, DoTo.mk_row HB0.out HI1.out (HB2.out.trans (HB4.out.mono HB2.out.size)) (own_low HO4.out HB2.out.size)⟩

set_option linter.unusedSimpArgs false in
set_option maxRecDepth 100000 in
set_option maxHeartbeats 4000000 in
theorem does1_yes (base g : Nat) (A : Option Addr) (c : Nat) (ms : List LM) (An : Option Addr) (cn : Nat) (B : Nat) (m : LM) (s : ByteArray) (w : World) (h : LX w base g A c ms) (hg : GoodL ms) (_hm : m.nm.size ≤ maxLen) (_hfr : -9223372036854775808 ≤ m.fr ∧ m.fr ≤ 9223372036854775807) (hb : Cells w B An (memCells ms)) (hB : B ≤ w.heap.size) (ha : Apart w g A ms.length c An (memCells ms)) (hbase : base ≤ w.heap.size) (ht : hasK LM.nm ms s = true) :
    Calls Tryd.prog 11 #[.pointer (some ⟨g, 0, none⟩), .slice An ms.length cn, .agg #[.int .i64 1, .string m.nm, .int .i64 m.at_, .int .i64 m.fr, .int .i64 m.ar, .int .i64 m.sz, .int .u32 m.su, .int .i64 m.me, .string s]] w fun e w' => ∃ A' c' An' cn', e = .returned (.tuple #[.bool true, .slice An' (outK LM.nm ms s).length cn']) ∧ DoTo w base g A c ms (outK LM.nm ms s) w' A' c' An' := by
  obtain ⟨W0, hW0⟩ : ∃ W0, w.alloc (.cells #[.int .i64 1, .string m.nm, .int .i64 m.at_, .int .i64 m.fr, .int .i64 m.ar, .int .i64 m.sz, .int .u32 m.su, .int .i64 m.me, .string s] 34) = W0 := ⟨_, rfl⟩
  have HB0 : Hid (Below w.heap.size w W0) := by rw [← hW0]; exact (Below.refl _ w).alloc (Nat.le_refl _) _
  have HX0 : Hid (Box W0 w.heap.size #[.int .i64 1, .string m.nm, .int .i64 m.at_, .int .i64 m.fr, .int .i64 m.ar, .int .i64 m.sz, .int .u32 m.su, .int .i64 m.me, .string s] 34) := by rw [← hW0]; exact heap_alloc_new w _
  have HH := Lib.hid (h.below HB0.out rfl)
  have HC := Lib.hid (hb.below HB0.out hB)
  have HAP := Lib.hid (ha.below HB0.out)
  have HF := Lib.hid (ref24Find_any An ms.length cn ms s B W0 rfl (by have := hg.len; omega) hg.ris HC.out)
  have HBB : Hid (B ≤ W0.heap.size) := Nat.le_trans hB HB0.out.size
  have HBS : Hid (base ≤ W0.heap.size) := Nat.le_trans hbase HB0.out.size
  have HGL := Lib.hid hg
  have HST : Hid (∀ {w' : World}, Below W0.heap.size W0 w' → DoTo w base g A c ms ms w' A c An) := fun hb' => ⟨IxTo.stay h (HB0.out.trans (hb'.mono HB0.out.size)), (HC.out.below hb' HBB.out).more (Nat.le_trans HBB.out hb'.size), HAP.out.below hb'⟩
  have HIX0 := Lib.hid h
  have HNB0 : Hid (¬ ixS g A ms.length c w.heap.size) := fun hk => by have := (h.lts _ hk).1; omega
  obtain ⟨y0, y1, y2, y3, y4, y5, y6, y7, y8⟩ := box9 HX0.out
  have HWT := Lib.hid (fun W (hW : Cells W B An (memCells ms)) (hB : B ≤ W.heap.size) => ref24Without_any An ms.length cn ms s B W rfl (by have := hg.len; omega) hW hB)
  have HP := Lib.hid (fun n => ixDrop_yes base g A c ms s (W0.drewN n) (HH.out.drewN n) ht)
  have hfi : findI ms s = (posK LM.nm ms s : Int) := findI_yes ht
  rw [hfi] at HF
  have hge : decide ((0 : Int) ≤ (posK LM.nm ms s : Int)) = true := by simp
  clear h hb hB ha hbase hg
  go_enter Tryd.func11, Tryd.ntmps11
  go_wp2_with (go_at_call 30; refine HF.out.mono ?_; rintro e w' ⟨rfl, rfl⟩; clear HF)
  refine wp_region_noPanic (wp_region_held_drew (S := (fun V : World => V.cell? ⟨w.heap.size, 8, none⟩ = some (.string s))) (by kernel_rfl) y8 (fun hHeld => ?_))
  (try simp only [Act.put, List.setIfInBounds_toArray, List.set_cons_zero, List.set_cons_succ])
  refine wpAnyH_take (i := 0) (v := ?_) (by simp only [List.getElem?_toArray, List.getElem?_cons_succ, List.getElem?_cons_zero]; rfl) (by kernel_rfl) (by kernel_rfl) (by kernel_rfl) (fun _ _ _ h => h) (Or.inl ⟨by rfl, ?_⟩) (by assumption) ?_
  rotate_left
  · intro w hSw; (try dsimp only at hSw); go_split_ands; go_simp; (try with_reducible rfl)
  (try simp only [Act.put, List.setIfInBounds_toArray, List.set_cons_zero, List.set_cons_succ])
  refine wpAnyH_take (i := 1) (v := ?_) (by simp only [List.getElem?_toArray, List.getElem?_cons_succ, List.getElem?_cons_zero]; rfl) (by kernel_rfl) (by kernel_rfl) (by kernel_rfl) (fun _ _ _ h => h) (Or.inl ⟨by rfl, ?_⟩) (by assumption) ?_
  rotate_left
  · intro w hSw; (try dsimp only at hSw); go_split_ands; go_simp; (try with_reducible rfl)
  (try simp only [Act.put, List.setIfInBounds_toArray, List.set_cons_zero, List.set_cons_succ])
  refine wpAnyH_take (i := 2) (v := ?_) (by simp only [List.getElem?_toArray, List.getElem?_cons_succ, List.getElem?_cons_zero]; rfl) (by kernel_rfl) (by kernel_rfl) (by kernel_rfl) (fun _ _ _ h => h) (Or.inl ⟨by rfl, ?_⟩) (by assumption) ?_
  rotate_left
  · intro w hSw; (try dsimp only at hSw); go_split_ands; go_simp; (try with_reducible rfl)
  (try simp only [Act.put, List.setIfInBounds_toArray, List.set_cons_zero, List.set_cons_succ])
  refine wpAnyH_take (i := 4) (v := ?_) (by simp only [List.getElem?_toArray, List.getElem?_cons_succ, List.getElem?_cons_zero]; rfl) (by kernel_rfl) (by kernel_rfl) (by kernel_rfl) (fun _ _ _ h => h) (Or.inl ⟨by rfl, ?_⟩) (by assumption) ?_
  rotate_left
  · intro w hSw; (try dsimp only at hSw); go_split_ands; go_simp; (try with_reducible rfl)
  (try simp only [Act.put, List.setIfInBounds_toArray, List.set_cons_zero, List.set_cons_succ])
  refine wpAnyH_take (i := 5) (v := ?_) (by simp only [List.getElem?_toArray, List.getElem?_cons_succ, List.getElem?_cons_zero]; rfl) (by kernel_rfl) (by kernel_rfl) (by kernel_rfl) (fun _ _ _ h => h) (Or.inl ⟨by rfl, ?_⟩) (by assumption) ?_
  rotate_left
  · intro w hSw; (try dsimp only at hSw); go_split_ands; go_simp; (try with_reducible rfl)
  (try simp only [Act.put, List.setIfInBounds_toArray, List.set_cons_zero, List.set_cons_succ])
  refine wpAnyH_take (i := 7) (v := ?_) (by simp only [List.getElem?_toArray, List.getElem?_cons_succ, List.getElem?_cons_zero]; rfl) (by kernel_rfl) (by kernel_rfl) (by kernel_rfl) (fun _ _ _ h => h) (Or.inl ⟨by rfl, ?_⟩) (by assumption) ?_
  rotate_left
  · intro w hSw; (try dsimp only at hSw); go_split_ands; go_simp; (try with_reducible rfl)
  (try simp only [Act.put, List.setIfInBounds_toArray, List.set_cons_zero, List.set_cons_succ])
  refine wpAnyH_take (i := 8) (v := ?_) (by simp only [List.getElem?_toArray, List.getElem?_cons_succ, List.getElem?_cons_zero]; rfl) (by kernel_rfl) (by kernel_rfl) (by kernel_rfl) (fun _ _ _ h => h) (Or.inl ⟨by rfl, ?_⟩) (by assumption) ?_
  rotate_left
  · intro w hSw; (try dsimp only at hSw); go_split_ands; go_simp; (try with_reducible rfl)
  (try simp only [Act.put, List.setIfInBounds_toArray, List.set_cons_zero, List.set_cons_succ])
  refine wpAnyH_take (i := 9) (v := ?_) (by simp only [List.getElem?_toArray, List.getElem?_cons_succ, List.getElem?_cons_zero]; rfl) (by kernel_rfl) (by kernel_rfl) (by kernel_rfl) (fun _ _ _ h => h) (Or.inl ⟨by rfl, ?_⟩) (by assumption) ?_
  rotate_left
  · intro w hSw; (try dsimp only at hSw); go_split_ands; go_simp; (try with_reducible rfl)
  (try simp only [Act.put, List.setIfInBounds_toArray, List.set_cons_zero, List.set_cons_succ])
  refine wpAnyH_ready (rs := [3]) (by kernel_rfl) (by simp) ?_
  refine AllReadyH.cons rfl (fun K hK => ?_) AllReadyH.nil
  go_simp
  go_at_call 23
  refine (HP.out 1).mono ?_
  rintro e w1 ⟨A1, c1, rfl, hix⟩
  have HI1 := Lib.hid hix.undrew
  have HC1 := Lib.hid (HC.out.apart HAP.out HI1.out.mod)
  have HX1 := Lib.hid (HX0.out.mod HI1.out.mod HNB0.out)
  clear HP hix
  go_wp2_with fail
  refine hK.out _ _ (HX1.out.cell 8) (fun hHeld => ?_)
  clear hK K
  (try simp only [Act.put, List.setIfInBounds_toArray, List.set_cons_zero, List.set_cons_succ])
  refine wpAnyH_take (i := 6) (v := ?_) (by simp only [List.getElem?_toArray, List.getElem?_cons_succ, List.getElem?_cons_zero]; rfl) (by kernel_rfl) (by kernel_rfl) (by kernel_rfl) (fun _ _ _ h => h) (Or.inl ⟨by rfl, ?_⟩) (by assumption) ?_
  rotate_left
  · intro w hSw; (try dsimp only at hSw); go_split_ands; go_simp; (try with_reducible rfl)
  (try simp only [Act.put, List.setIfInBounds_toArray, List.set_cons_zero, List.set_cons_succ])
  refine wpAnyH_ready (rs := [10]) (by kernel_rfl) (by simp) ?_
  refine AllReadyH.cons rfl (fun K hK => ?_) AllReadyH.nil
  go_simp
  go_at_call 33
  refine (HWT.out _ HC1.out (Nat.le_trans HBB.out HI1.out.mod.size)).mono ?_
  rintro e w4 ⟨An4, cn4, rfl, hown, hbel⟩
  have HO4 := Lib.hid hown
  have HB4 := Lib.hid hbel
  have HX4 := Lib.hid (HX1.out.below hbel HX1.out.lt)
  clear hown hbel HWT
  go_wp2_with fail
  refine hK.out _ _ (HX4.out.cell 8) (fun hHeld => ?_)
  clear hK K
  (try simp only [Act.put, List.setIfInBounds_toArray, List.set_cons_zero, List.set_cons_succ])
  refine wpAnyH_take (i := 11) (v := ?_) (by simp only [List.getElem?_toArray, List.getElem?_cons_succ, List.getElem?_cons_zero]; rfl) (by kernel_rfl) (by kernel_rfl) (by kernel_rfl) (fun _ _ _ h => h) (Or.inl ⟨by rfl, ?_⟩) (by assumption) ?_
  rotate_left
  · intro w hSw; (try dsimp only at hSw); go_split_ands; go_simp; (try with_reducible rfl)
  (try simp only [Act.put, List.setIfInBounds_toArray, List.set_cons_zero, List.set_cons_succ])
  refine wpAnyH_take (i := 12) (v := ?_) (by simp only [List.getElem?_toArray, List.getElem?_cons_succ, List.getElem?_cons_zero]; rfl) (by kernel_rfl) (by kernel_rfl) (by kernel_rfl) (fun _ _ _ h => h) (Or.inl ⟨by rfl, ?_⟩) (by assumption) ?_
  rotate_left
  · intro w hSw; (try dsimp only at hSw); go_split_ands; go_simp; (try with_reducible rfl)
  (try simp only [Act.put, List.setIfInBounds_toArray, List.set_cons_zero, List.set_cons_succ])
  refine wpAnyH_done (by kernel_rfl) (NoPanic.normal ?_) _
  go_wp2
  go_ret2
  refine ⟨A1, c1, An4, cn4, rfl, ?_⟩
  exact DoTo.mk_row HB0.out HI1.out HB4.out HO4.out

set_option linter.unusedSimpArgs false in
set_option maxRecDepth 100000 in
set_option maxHeartbeats 4000000 in
theorem does1_no (base g : Nat) (A : Option Addr) (c : Nat) (ms : List LM) (An : Option Addr) (cn : Nat) (B : Nat) (m : LM) (s : ByteArray) (w : World) (h : LX w base g A c ms) (hg : GoodL ms) (_hm : m.nm.size ≤ maxLen) (_hfr : -9223372036854775808 ≤ m.fr ∧ m.fr ≤ 9223372036854775807) (hb : Cells w B An (memCells ms)) (hB : B ≤ w.heap.size) (ha : Apart w g A ms.length c An (memCells ms)) (hbase : base ≤ w.heap.size) (ht : hasK LM.nm ms s = false) :
    Calls Tryd.prog 11 #[.pointer (some ⟨g, 0, none⟩), .slice An ms.length cn, .agg #[.int .i64 1, .string m.nm, .int .i64 m.at_, .int .i64 m.fr, .int .i64 m.ar, .int .i64 m.sz, .int .u32 m.su, .int .i64 m.me, .string s]] w fun e w' => ∃ A' c' An' cn', e = .returned (.tuple #[.bool true, .slice An' (outK LM.nm ms s).length cn']) ∧ DoTo w base g A c ms (outK LM.nm ms s) w' A' c' An' := by
  obtain ⟨W0, hW0⟩ : ∃ W0, w.alloc (.cells #[.int .i64 1, .string m.nm, .int .i64 m.at_, .int .i64 m.fr, .int .i64 m.ar, .int .i64 m.sz, .int .u32 m.su, .int .i64 m.me, .string s] 34) = W0 := ⟨_, rfl⟩
  have HB0 : Hid (Below w.heap.size w W0) := by rw [← hW0]; exact (Below.refl _ w).alloc (Nat.le_refl _) _
  have HX0 : Hid (Box W0 w.heap.size #[.int .i64 1, .string m.nm, .int .i64 m.at_, .int .i64 m.fr, .int .i64 m.ar, .int .i64 m.sz, .int .u32 m.su, .int .i64 m.me, .string s] 34) := by rw [← hW0]; exact heap_alloc_new w _
  have HH := Lib.hid (h.below HB0.out rfl)
  have HC := Lib.hid (hb.below HB0.out hB)
  have HAP := Lib.hid (ha.below HB0.out)
  have HF := Lib.hid (ref24Find_any An ms.length cn ms s B W0 rfl (by have := hg.len; omega) hg.ris HC.out)
  have HBB : Hid (B ≤ W0.heap.size) := Nat.le_trans hB HB0.out.size
  have HBS : Hid (base ≤ W0.heap.size) := Nat.le_trans hbase HB0.out.size
  have HGL := Lib.hid hg
  have HST : Hid (∀ {w' : World}, Below W0.heap.size W0 w' → DoTo w base g A c ms ms w' A c An) := fun hb' => ⟨IxTo.stay h (HB0.out.trans (hb'.mono HB0.out.size)), (HC.out.below hb' HBB.out).more (Nat.le_trans HBB.out hb'.size), HAP.out.below hb'⟩
  have HIX0 := Lib.hid h
  have HNB0 : Hid (¬ ixS g A ms.length c w.heap.size) := fun hk => by have := (h.lts _ hk).1; omega
  obtain ⟨y0, y1, y2, y3, y4, y5, y6, y7, y8⟩ := box9 HX0.out
  have HWT := Lib.hid (fun W (hW : Cells W B An (memCells ms)) (hB : B ≤ W.heap.size) => ref24Without_any An ms.length cn ms s B W rfl (by have := hg.len; omega) hW hB)
  have HP := Lib.hid (fun n => ixDrop_not base g A c ms s (W0.drewN n) (HH.out.drewN n) ht)
  have HOUT : Hid (outK LM.nm ms s = ms) := out_not ht
  have hfi : findI ms s = -1 := findI_no ht
  rw [hfi] at HF
  clear h hb hB ha hbase hg
  go_enter Tryd.func11, Tryd.ntmps11
  go_wp2_with (go_at_call 30; refine HF.out.mono ?_; rintro e w' ⟨rfl, rfl⟩; clear HF)
  refine wp_region_noPanic (wp_region_held_drew (S := (fun V : World => V.cell? ⟨w.heap.size, 8, none⟩ = some (.string s))) (by kernel_rfl) y8 (fun hHeld => ?_))
  (try simp only [Act.put, List.setIfInBounds_toArray, List.set_cons_zero, List.set_cons_succ])
  refine wpAnyH_take (i := 0) (v := ?_) (by simp only [List.getElem?_toArray, List.getElem?_cons_succ, List.getElem?_cons_zero]; rfl) (by kernel_rfl) (by kernel_rfl) (by kernel_rfl) (fun _ _ _ h => h) (Or.inl ⟨by rfl, ?_⟩) (by assumption) ?_
  rotate_left
  · intro w hSw; (try dsimp only at hSw); go_split_ands; go_simp; (try with_reducible rfl)
  (try simp only [Act.put, List.setIfInBounds_toArray, List.set_cons_zero, List.set_cons_succ])
  refine wpAnyH_take (i := 1) (v := ?_) (by simp only [List.getElem?_toArray, List.getElem?_cons_succ, List.getElem?_cons_zero]; rfl) (by kernel_rfl) (by kernel_rfl) (by kernel_rfl) (fun _ _ _ h => h) (Or.inl ⟨by rfl, ?_⟩) (by assumption) ?_
  rotate_left
  · intro w hSw; (try dsimp only at hSw); go_split_ands; go_simp; (try with_reducible rfl)
  (try simp only [Act.put, List.setIfInBounds_toArray, List.set_cons_zero, List.set_cons_succ])
  refine wpAnyH_take (i := 2) (v := ?_) (by simp only [List.getElem?_toArray, List.getElem?_cons_succ, List.getElem?_cons_zero]; rfl) (by kernel_rfl) (by kernel_rfl) (by kernel_rfl) (fun _ _ _ h => h) (Or.inl ⟨by rfl, ?_⟩) (by assumption) ?_
  rotate_left
  · intro w hSw; (try dsimp only at hSw); go_split_ands; go_simp; (try with_reducible rfl)
  (try simp only [Act.put, List.setIfInBounds_toArray, List.set_cons_zero, List.set_cons_succ])
  refine wpAnyH_take (i := 4) (v := ?_) (by simp only [List.getElem?_toArray, List.getElem?_cons_succ, List.getElem?_cons_zero]; rfl) (by kernel_rfl) (by kernel_rfl) (by kernel_rfl) (fun _ _ _ h => h) (Or.inl ⟨by rfl, ?_⟩) (by assumption) ?_
  rotate_left
  · intro w hSw; (try dsimp only at hSw); go_split_ands; go_simp; (try with_reducible rfl)
  (try simp only [Act.put, List.setIfInBounds_toArray, List.set_cons_zero, List.set_cons_succ])
  refine wpAnyH_take (i := 5) (v := ?_) (by simp only [List.getElem?_toArray, List.getElem?_cons_succ, List.getElem?_cons_zero]; rfl) (by kernel_rfl) (by kernel_rfl) (by kernel_rfl) (fun _ _ _ h => h) (Or.inl ⟨by rfl, ?_⟩) (by assumption) ?_
  rotate_left
  · intro w hSw; (try dsimp only at hSw); go_split_ands; go_simp; (try with_reducible rfl)
  (try simp only [Act.put, List.setIfInBounds_toArray, List.set_cons_zero, List.set_cons_succ])
  refine wpAnyH_take (i := 7) (v := ?_) (by simp only [List.getElem?_toArray, List.getElem?_cons_succ, List.getElem?_cons_zero]; rfl) (by kernel_rfl) (by kernel_rfl) (by kernel_rfl) (fun _ _ _ h => h) (Or.inl ⟨by rfl, ?_⟩) (by assumption) ?_
  rotate_left
  · intro w hSw; (try dsimp only at hSw); go_split_ands; go_simp; (try with_reducible rfl)
  (try simp only [Act.put, List.setIfInBounds_toArray, List.set_cons_zero, List.set_cons_succ])
  refine wpAnyH_take (i := 8) (v := ?_) (by simp only [List.getElem?_toArray, List.getElem?_cons_succ, List.getElem?_cons_zero]; rfl) (by kernel_rfl) (by kernel_rfl) (by kernel_rfl) (fun _ _ _ h => h) (Or.inl ⟨by rfl, ?_⟩) (by assumption) ?_
  rotate_left
  · intro w hSw; (try dsimp only at hSw); go_split_ands; go_simp; (try with_reducible rfl)
  (try simp only [Act.put, List.setIfInBounds_toArray, List.set_cons_zero, List.set_cons_succ])
  refine wpAnyH_take (i := 9) (v := ?_) (by simp only [List.getElem?_toArray, List.getElem?_cons_succ, List.getElem?_cons_zero]; rfl) (by kernel_rfl) (by kernel_rfl) (by kernel_rfl) (fun _ _ _ h => h) (Or.inl ⟨by rfl, ?_⟩) (by assumption) ?_
  rotate_left
  · intro w hSw; (try dsimp only at hSw); go_split_ands; go_simp; (try with_reducible rfl)
  (try simp only [Act.put, List.setIfInBounds_toArray, List.set_cons_zero, List.set_cons_succ])
  refine wpAnyH_ready (rs := [3]) (by kernel_rfl) (by simp) ?_
  refine AllReadyH.cons rfl (fun K hK => ?_) AllReadyH.nil
  go_simp
  go_at_call 23
  refine (HP.out 1).mono ?_
  rintro e w1 ⟨rfl, hbel⟩
  have HI1 := Lib.hid (show IxTo W0 base g A ms.length c (outK LM.nm ms s) w1 A c by rw [HOUT.out]; exact IxTo.stay HH.out (below_undrew hbel))
  have HC1 := Lib.hid (HC.out.apart HAP.out HI1.out.mod)
  have HX1 := Lib.hid (HX0.out.mod HI1.out.mod HNB0.out)
  clear HP hbel
  go_wp2_with fail
  refine hK.out _ _ (HX1.out.cell 8) (fun hHeld => ?_)
  clear hK K
  (try simp only [Act.put, List.setIfInBounds_toArray, List.set_cons_zero, List.set_cons_succ])
  refine wpAnyH_take (i := 6) (v := ?_) (by simp only [List.getElem?_toArray, List.getElem?_cons_succ, List.getElem?_cons_zero]; rfl) (by kernel_rfl) (by kernel_rfl) (by kernel_rfl) (fun _ _ _ h => h) (Or.inl ⟨by rfl, ?_⟩) (by assumption) ?_
  rotate_left
  · intro w hSw; (try dsimp only at hSw); go_split_ands; go_simp; (try with_reducible rfl)
  (try simp only [Act.put, List.setIfInBounds_toArray, List.set_cons_zero, List.set_cons_succ])
  refine wpAnyH_ready (rs := [10]) (by kernel_rfl) (by simp) ?_
  refine AllReadyH.cons rfl (fun K hK => ?_) AllReadyH.nil
  go_simp
  go_at_call 33
  refine (HWT.out _ HC1.out (Nat.le_trans HBB.out HI1.out.mod.size)).mono ?_
  rintro e w4 ⟨An4, cn4, rfl, hown, hbel⟩
  have HO4 := Lib.hid hown
  have HB4 := Lib.hid hbel
  have HX4 := Lib.hid (HX1.out.below hbel HX1.out.lt)
  clear hown hbel HWT
  go_wp2_with fail
  refine hK.out _ _ (HX4.out.cell 8) (fun hHeld => ?_)
  clear hK K
  (try simp only [Act.put, List.setIfInBounds_toArray, List.set_cons_zero, List.set_cons_succ])
  refine wpAnyH_take (i := 11) (v := ?_) (by simp only [List.getElem?_toArray, List.getElem?_cons_succ, List.getElem?_cons_zero]; rfl) (by kernel_rfl) (by kernel_rfl) (by kernel_rfl) (fun _ _ _ h => h) (Or.inl ⟨by rfl, ?_⟩) (by assumption) ?_
  rotate_left
  · intro w hSw; (try dsimp only at hSw); go_split_ands; go_simp; (try with_reducible rfl)
  (try simp only [Act.put, List.setIfInBounds_toArray, List.set_cons_zero, List.set_cons_succ])
  refine wpAnyH_take (i := 12) (v := ?_) (by simp only [List.getElem?_toArray, List.getElem?_cons_succ, List.getElem?_cons_zero]; rfl) (by kernel_rfl) (by kernel_rfl) (by kernel_rfl) (fun _ _ _ h => h) (Or.inl ⟨by rfl, ?_⟩) (by assumption) ?_
  rotate_left
  · intro w hSw; (try dsimp only at hSw); go_split_ands; go_simp; (try with_reducible rfl)
  (try simp only [Act.put, List.setIfInBounds_toArray, List.set_cons_zero, List.set_cons_succ])
  refine wpAnyH_done (by kernel_rfl) (NoPanic.normal ?_) _
  go_wp2
  go_ret2
  refine ⟨A, c, An4, cn4, rfl, ?_⟩
  exact DoTo.mk_row HB0.out HI1.out HB4.out HO4.out

set_option linter.unusedSimpArgs false in
set_option maxRecDepth 100000 in
set_option maxHeartbeats 4000000 in
theorem does2_no (base g : Nat) (A : Option Addr) (c : Nat) (ms : List LM) (An : Option Addr) (cn : Nat) (B : Nat) (m : LM) (s : ByteArray) (w : World) (h : LX w base g A c ms) (hg : GoodL ms) (_hm : m.nm.size ≤ maxLen) (_hfr : -9223372036854775808 ≤ m.fr ∧ m.fr ≤ 9223372036854775807) (hb : Cells w B An (memCells ms)) (hB : B ≤ w.heap.size) (ha : Apart w g A ms.length c An (memCells ms)) (hbase : base ≤ w.heap.size) (ht : hasK LM.nm ms s = false) :
    Calls Tryd.prog 11 #[.pointer (some ⟨g, 0, none⟩), .slice An ms.length cn, .agg #[.int .i64 2, .string m.nm, .int .i64 m.at_, .int .i64 m.fr, .int .i64 m.ar, .int .i64 m.sz, .int .u32 m.su, .int .i64 m.me, .string s]] w fun e w' => ∃ A' c' An' cn', e = .returned (.tuple #[.bool true, .slice An' (ms).length cn']) ∧ DoTo w base g A c ms (ms) w' A' c' An' := by
  obtain ⟨W0, hW0⟩ : ∃ W0, w.alloc (.cells #[.int .i64 2, .string m.nm, .int .i64 m.at_, .int .i64 m.fr, .int .i64 m.ar, .int .i64 m.sz, .int .u32 m.su, .int .i64 m.me, .string s] 34) = W0 := ⟨_, rfl⟩
  have HB0 : Hid (Below w.heap.size w W0) := by rw [← hW0]; exact (Below.refl _ w).alloc (Nat.le_refl _) _
  have HX0 : Hid (Box W0 w.heap.size #[.int .i64 2, .string m.nm, .int .i64 m.at_, .int .i64 m.fr, .int .i64 m.ar, .int .i64 m.sz, .int .u32 m.su, .int .i64 m.me, .string s] 34) := by rw [← hW0]; exact heap_alloc_new w _
  have HH := Lib.hid (h.below HB0.out rfl)
  have HC := Lib.hid (hb.below HB0.out hB)
  have HAP := Lib.hid (ha.below HB0.out)
  have HF := Lib.hid (ref24Find_any An ms.length cn ms s B W0 rfl (by have := hg.len; omega) hg.ris HC.out)
  have HBB : Hid (B ≤ W0.heap.size) := Nat.le_trans hB HB0.out.size
  have HBS : Hid (base ≤ W0.heap.size) := Nat.le_trans hbase HB0.out.size
  have HGL := Lib.hid hg
  have HST : Hid (∀ {w' : World}, Below W0.heap.size W0 w' → DoTo w base g A c ms ms w' A c An) := fun hb' => ⟨IxTo.stay h (HB0.out.trans (hb'.mono HB0.out.size)), (HC.out.below hb' HBB.out).more (Nat.le_trans HBB.out hb'.size), HAP.out.below hb'⟩
  have HIX0 := Lib.hid h
  have HNB0 : Hid (¬ ixS g A ms.length c w.heap.size) := fun hk => by have := (h.lts _ hk).1; omega
  obtain ⟨y0, y1, y2, y3, y4, y5, y6, y7, y8⟩ := box9 HX0.out
  have HG := Lib.hid (ixGet_any base g A c ms s W0 HH.out)
  have hfi : findI ms s = -1 := findI_no ht
  rw [hfi] at HF
  rw [ht, getM_not ht, show aggM LM.zero = .agg #[.string ⟨#[]⟩, .int .i64 0, .int .i64 0, .int .i64 0, .int .i64 0, .int .u32 0, .int .i64 0] from rfl] at HG
  clear h hb hB ha hbase hg
  go_enter Tryd.func11, Tryd.ntmps11
  go_wp2_with (go_at_call 30; refine HF.out.mono ?_; rintro e w' ⟨rfl, rfl⟩; clear HF)
  go_wp2_with (go_at_call 21; refine HG.out.mono ?_; rintro e w1 ⟨rfl, hbel⟩; have HB1 := Lib.hid hbel; clear hbel HG)
  go_ret2
  refine ⟨_, _, _, _, rfl, HST.out ?_⟩
  first | exact HB1.out | exact HB1.out.alloc HB1.out.size _

set_option linter.unusedSimpArgs false in
set_option maxRecDepth 100000 in
set_option maxHeartbeats 4000000 in
theorem does2_yes (base g : Nat) (A : Option Addr) (c : Nat) (ms : List LM) (An : Option Addr) (cn : Nat) (B : Nat) (m : LM) (s : ByteArray) (w : World) (h : LX w base g A c ms) (hg : GoodL ms) (_hm : m.nm.size ≤ maxLen) (_hfr : -9223372036854775808 ≤ m.fr ∧ m.fr ≤ 9223372036854775807) (hb : Cells w B An (memCells ms)) (hB : B ≤ w.heap.size) (ha : Apart w g A ms.length c An (memCells ms)) (hbase : base ≤ w.heap.size) (ht : hasK LM.nm ms s = true) :
    Calls Tryd.prog 11 #[.pointer (some ⟨g, 0, none⟩), .slice An ms.length cn, .agg #[.int .i64 2, .string m.nm, .int .i64 m.at_, .int .i64 m.fr, .int .i64 m.ar, .int .i64 m.sz, .int .u32 m.su, .int .i64 m.me, .string s]] w fun e w' => ∃ A' c' An' cn', e = .returned (.tuple #[.bool true, .slice An' (ms).length cn']) ∧ DoTo w base g A c ms (ms) w' A' c' An' := by
  obtain ⟨W0, hW0⟩ : ∃ W0, w.alloc (.cells #[.int .i64 2, .string m.nm, .int .i64 m.at_, .int .i64 m.fr, .int .i64 m.ar, .int .i64 m.sz, .int .u32 m.su, .int .i64 m.me, .string s] 34) = W0 := ⟨_, rfl⟩
  have HB0 : Hid (Below w.heap.size w W0) := by rw [← hW0]; exact (Below.refl _ w).alloc (Nat.le_refl _) _
  have HX0 : Hid (Box W0 w.heap.size #[.int .i64 2, .string m.nm, .int .i64 m.at_, .int .i64 m.fr, .int .i64 m.ar, .int .i64 m.sz, .int .u32 m.su, .int .i64 m.me, .string s] 34) := by rw [← hW0]; exact heap_alloc_new w _
  have HH := Lib.hid (h.below HB0.out rfl)
  have HC := Lib.hid (hb.below HB0.out hB)
  have HAP := Lib.hid (ha.below HB0.out)
  have HF := Lib.hid (ref24Find_any An ms.length cn ms s B W0 rfl (by have := hg.len; omega) hg.ris HC.out)
  have HBB : Hid (B ≤ W0.heap.size) := Nat.le_trans hB HB0.out.size
  have HBS : Hid (base ≤ W0.heap.size) := Nat.le_trans hbase HB0.out.size
  have HGL := Lib.hid hg
  have HST : Hid (∀ {w' : World}, Below W0.heap.size W0 w' → DoTo w base g A c ms ms w' A c An) := fun hb' => ⟨IxTo.stay h (HB0.out.trans (hb'.mono HB0.out.size)), (HC.out.below hb' HBB.out).more (Nat.le_trans HBB.out hb'.size), HAP.out.below hb'⟩
  have HIX0 := Lib.hid h
  have HNB0 : Hid (¬ ixS g A ms.length c w.heap.size) := fun hk => by have := (h.lts _ hk).1; omega
  obtain ⟨y0, y1, y2, y3, y4, y5, y6, y7, y8⟩ := box9 HX0.out
  obtain ⟨x, hx, hxn⟩ := hasK_there h.ris ht
  have HG := Lib.hid (ixGet_any base g A c ms s W0 HH.out)
  have hfi : findI ms s = (posK LM.nm ms s : Int) := findI_yes ht
  rw [hfi] at HF
  rw [ht, getM_there h.ris hx hxn] at HG
  have hlt := (List.getElem?_eq_some_iff.1 hx).1
  have HX := Lib.hid hx
  obtain ⟨p, hp⟩ : ∃ p, posK LM.nm ms s = p := ⟨_, rfl⟩
  rw [hp] at HF HX hlt
  have hpi : (p : Int) < (ms.length : Int) := by omega
  have hge : ¬ ((p : Int) < 0) := by omega
  obtain ⟨bb, ob, rfl, hbB, hcc⟩ := HC.out (by rw [mems_len]; omega)
  have HMT := Lib.hid (fun W (hW : Below W0.heap.size W0 W) => mem_at hbB hcc (hBw_below hW HBB.out) HX.out)
  have hrn : ∀ V, (binOp .eql 32 (aggM x) (aggM x)).run Tryd.prog V = .ok (.bool true) V := fun V => by rw [run_eqM x x V]; simp [eqM]
  clear hx hxn hp hcc hfi
  clear h hb hB ha hbase hg
  go_enter Tryd.func11, Tryd.ntmps11
  go_wp2_with (go_at_call 30; refine HF.out.mono ?_; rintro e w' ⟨rfl, rfl⟩; clear HF)
  go_wp2_with (go_at_call 21; refine HG.out.mono ?_; rintro e w1 ⟨rfl, hbel⟩; have HB1 := Lib.hid hbel; clear hbel HG)
  obtain ⟨W2, hW2⟩ : ∃ W2, w1.alloc (.cells #[.string x.nm, .int .i64 x.at_, .int .i64 x.fr, .int .i64 x.ar, .int .i64 x.sz, .int .u32 x.su, .int .i64 x.me] 32) = W2 := ⟨_, rfl⟩
  have HB2 : Hid (Below W0.heap.size W0 W2) := by show Below _ _ _; rw [← hW2]; exact HB1.out.alloc HB1.out.size _
  have HX2 : Hid (Box W2 w1.heap.size #[.string x.nm, .int .i64 x.at_, .int .i64 x.fr, .int .i64 x.ar, .int .i64 x.sz, .int .u32 x.su, .int .i64 x.me] 32) := by show Box _ _ _ _; rw [← hW2]; exact heap_alloc_new w1 _
  try rw [hW2]
  clear hW2 y0 y1 y2 y3 y4 y5 y6 y7 y8
  obtain ⟨q0, q1, q2, q3, q4, q5, q6, _⟩ := box7 HX2.out
  obtain ⟨c0, c1, c2, c3, c4, c5, c6⟩ := HMT.out W2 HB2.out
  go_quiet (fail)
  go_wp2
  go_ret2
  exact ⟨_, _, _, _, rfl, HST.out (Below.drewN HB2.out _)⟩

set_option linter.unusedSimpArgs false in
set_option maxRecDepth 100000 in
set_option maxHeartbeats 4000000 in
theorem does3_any (base g : Nat) (A : Option Addr) (c : Nat) (ms : List LM) (An : Option Addr) (cn : Nat) (B : Nat) (kd : Int) (m : LM) (s : ByteArray) (w : World) (h : LX w base g A c ms) (hg : GoodL ms) (_hm : m.nm.size ≤ maxLen) (_hfr : -9223372036854775808 ≤ m.fr ∧ m.fr ≤ 9223372036854775807) (hb : Cells w B An (memCells ms)) (hB : B ≤ w.heap.size) (ha : Apart w g A ms.length c An (memCells ms)) (hbase : base ≤ w.heap.size) (h0 : kd ≠ 0) (h1 : kd ≠ 1) (h2 : kd ≠ 2) :
    Calls Tryd.prog 11 #[.pointer (some ⟨g, 0, none⟩), .slice An ms.length cn, .agg #[.int .i64 kd, .string m.nm, .int .i64 m.at_, .int .i64 m.fr, .int .i64 m.ar, .int .i64 m.sz, .int .u32 m.su, .int .i64 m.me, .string s]] w fun e w' => ∃ A' c' An' cn', e = .returned (.tuple #[.bool true, .slice An' (ms).length cn']) ∧ DoTo w base g A c ms (ms) w' A' c' An' := by
  obtain ⟨W0, hW0⟩ : ∃ W0, w.alloc (.cells #[.int .i64 kd, .string m.nm, .int .i64 m.at_, .int .i64 m.fr, .int .i64 m.ar, .int .i64 m.sz, .int .u32 m.su, .int .i64 m.me, .string s] 34) = W0 := ⟨_, rfl⟩
  have HB0 : Hid (Below w.heap.size w W0) := by rw [← hW0]; exact (Below.refl _ w).alloc (Nat.le_refl _) _
  have HX0 : Hid (Box W0 w.heap.size #[.int .i64 kd, .string m.nm, .int .i64 m.at_, .int .i64 m.fr, .int .i64 m.ar, .int .i64 m.sz, .int .u32 m.su, .int .i64 m.me, .string s] 34) := by rw [← hW0]; exact heap_alloc_new w _
  have HH := Lib.hid (h.below HB0.out rfl)
  have HC := Lib.hid (hb.below HB0.out hB)
  have HAP := Lib.hid (ha.below HB0.out)
  have HF := Lib.hid (ref24Find_any An ms.length cn ms s B W0 rfl (by have := hg.len; omega) hg.ris HC.out)
  have HBB : Hid (B ≤ W0.heap.size) := Nat.le_trans hB HB0.out.size
  have HBS : Hid (base ≤ W0.heap.size) := Nat.le_trans hbase HB0.out.size
  have HGL := Lib.hid hg
  have HST : Hid (∀ {w' : World}, Below W0.heap.size W0 w' → DoTo w base g A c ms ms w' A c An) := fun hb' => ⟨IxTo.stay h (HB0.out.trans (hb'.mono HB0.out.size)), (HC.out.below hb' HBB.out).more (Nat.le_trans HBB.out hb'.size), HAP.out.below hb'⟩
  have HIX0 := Lib.hid h
  have HNB0 : Hid (¬ ixS g A ms.length c w.heap.size) := fun hk => by have := (h.lts _ hk).1; omega
  obtain ⟨y0, y1, y2, y3, y4, y5, y6, y7, y8⟩ := box9 HX0.out
  clear h hb hB ha hbase hg
  go_enter Tryd.func11, Tryd.ntmps11
  go_wp2_with (go_at_call 30; refine HF.out.mono ?_; rintro e w' ⟨rfl, rfl⟩; clear HF)
  obtain ⟨ι, f, n0, hf0, hfb, hfu⟩ := below_class W0
  have HFU := Lib.hid hfu
  have HFB := Lib.hid hfb
  have HXF := Lib.hid (fun n => HH.out.below (hfb n) rfl)
  have y8f : ∀ n, (f n).cell? ⟨w.heap.size, 8, none⟩ = some (.string s) := fun n => (HX0.out.below (HFB.out n) HX0.out.lt).cell 8
  haveI : Nonempty ι := ⟨n0⟩
  clear hfb hfu
  have HRI := Lib.hid (fun n => ixRoom_any base g A c ms s (f n) (HXF.out n))
  have HRR := Lib.hid (fun n => ref24Room_any An ms.length cn ms s B (f n) rfl (by have := HGL.out.len; omega) HGL.out.ris (HC.out.below (HFB.out n) HBB.out))
  refine region_quiet_f f n0 hf0 (by kernel_rfl) (by kernel_rfl) ?_
  repeat (go_big_quiet_step (first | (go_at_call 24; exact quiet_f HFU.out (HRI.out _)) | (go_at_call 31; exact (HRR.out _).mono (fun _ _ ⟨h1, h2⟩ => ⟨h1, _, h2.symm⟩))))
  refine wpQuiet_nil ?_
  rintro _ ⟨nq, rfl⟩
  have HBN := Lib.hid (HFB.out nq)
  generalize f nq = w6 at *
  go_wp2
  go_ret2
  exact ⟨_, _, _, _, rfl, HST.out HBN.out⟩

end Go.Proofs.YtjoifgeljjgflaaDoor
