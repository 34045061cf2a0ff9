/- Layer 24: the reference's Find, Room, Bytes, Without, With. -/
import Derived.Test.YtjoifgeljjgflaaDoorIxQ
namespace Go.Proofs.YtjoifgeljjgflaaDoor
open Go.RowKit

theorem own_low {w : World} {b b' : Nat} {e : TypeId} {k n : Nat} {v : Value} {xs : List Value} (h : w.ownsRow b e k v n xs) (hb : b' ≤ b) : w.ownsRow b' e k v n xs := ⟨h.1, by
  rcases h.2 with h | ⟨g, cap, cur, h1, h2, h3⟩
  · exact .inl h
  · exact .inr ⟨g, cap, cur, h1, Nat.le_trans hb h2, h3⟩⟩
theorem memCells_snoc (l : List LM) (x : LM) : memCells (l ++ [x]) = memCells l ++ x.cells := by unfold memCells; simp
theorem withK_all {l : List LM} {m : LM} (h : ∀ x ∈ l, ltN x.nm m.nm = true) : withK LM.nm l m = l ++ [m] := by
  unfold withK
  rw [List.filter_eq_self.2 h, List.filter_eq_nil_iff.2 (fun y hy => by simp [ltN_asymm (h y hy)])]
theorem withK_snoc (l : List LM) {m x : LM} (h : ltN m.nm x.nm = true) : withK LM.nm (l ++ [x]) m = withK LM.nm l m ++ [x] := by
  unfold withK
  rw [List.filter_append, List.filter_append, List.filter_cons_of_neg (by simp [ltN_asymm h]), List.filter_nil, List.append_nil, List.filter_cons_of_pos (by simp [h]), List.filter_nil]
  simp
theorem withK_same {l : List LM} {m x : LM} (h : ∀ y ∈ l, ltN y.nm m.nm = true) (e : x.nm = m.nm) : withK LM.nm (l ++ [x]) m = l ++ [m] := by
  rw [← withK_all h]
  unfold withK
  rw [List.filter_append, List.filter_append, List.filter_cons_of_neg (by simp [e, ltN_irrefl]), List.filter_nil, List.append_nil, List.filter_cons_of_neg (by simp [e, ltN_irrefl]), List.filter_nil, List.append_nil]
theorem take_snoc {l : List LM} {k : Nat} {x : LM} (h : l[k]? = some x) : l.take (k + 1) = l.take k ++ [x] := by rw [List.take_add_one, h]; rfl
theorem ris_get {l : List LM} (h : RisM l) {i j : Nat} {x y : LM} (hx : l[i]? = some x) (hy : l[j]? = some y) (hij : i < j) : ltN x.nm y.nm = true := by
  obtain ⟨h1, rfl⟩ := List.getElem?_eq_some_iff.1 hx
  obtain ⟨h2, rfl⟩ := List.getElem?_eq_some_iff.1 hy
  exact List.pairwise_iff_getElem.1 h i j h1 h2 hij
theorem leB_lt (a b : ByteArray) : leB a b = !ltN b a := by
  unfold leB
  cases h : ltN b a with
  | true =>
    rw [show Op.bytesLess a.toList b.toList = false from bl_asymm _ _ h, nmEq_dec, decide_eq_false (fun e => by subst e; rw [ltN_irrefl] at h; cases h)]
    rfl
  | false =>
    by_cases e : a = b
    · rw [nmEq_dec, decide_eq_true e]; simp
    · have : Op.bytesLess a.toList b.toList = true := ltN_gt h (fun e' => e e'.symm)
      rw [this]; rfl

/-- A name's place; -1, if it isn't there. -/
def findI (ms : List LM) (s : ByteArray) : Int := if hasK LM.nm ms s then (posK LM.nm ms s : Int) else -1
set_option maxRecDepth 100000 in
set_option maxHeartbeats 1000000 in
theorem ref24Find_any (A : Option Addr) (l c : Nat) (ms : List LM) (s : ByteArray) (B : Nat) (w : World) (hl : ms.length = l) (hm : l ≤ 1000000000) (hr : RisM ms) (hb : Cells w B A (memCells ms)) :
    Calls Tryd.prog 30 #[.slice A l c, .string s] w fun e w' => e = .returned (.int .i64 (findI ms s)) ∧ w = w' := by
  have HC := Lib.hid hb
  have HFL := Lib.hid (mems_len ms)
  have HL := Lib.hid hl
  have HR := Lib.hid hr
  clear hb hl hr
  go_enter Tryd.func30, Tryd.ntmps30
  go_wp2
  go_loopg [5] l (fun gk i wr => ∃ k : Nat, k + gk = l ∧ i = .int .i64 k ∧ wr = w ∧ ∀ j x, j < k → ms[j]? = some x → x.nm ≠ s)
  case atStart => exact ⟨0, by omega, rfl, rfl, fun j f hj => absurd hj (Nat.not_lt_zero _)⟩
  case round =>
    obtain ⟨k, hk, rfl, rfl, hall⟩ := hrel
    have HA := Lib.hid hall
    clear hall
    by_cases h : k < l
    · obtain ⟨x, hx⟩ : ∃ x, ms[k]? = some x := ⟨_, List.getElem?_eq_getElem (by have := HL.out; omega)⟩
      obtain ⟨b, o, rfl, hbB, hc⟩ := HC.out (by rw [HFL.out]; have := HL.out; omega)
      have c0 := (mem_at hbB hc (Below.refl _ _) hx).c0
      have HX := Lib.hid hx
      have hw1 : IntKind.i64.wrap ((k : Int) + 1) = (k : Int) + 1 := IntWalk.i64_in _ (by omega)
      obtain ⟨q, hq⟩ : ∃ q, (x.nm.toList == s.toList) = q := ⟨_, rfl⟩
      have HQ := Lib.hid hq
      have hq2 : (x.nm.toList = s.toList) = (q = true) := by rw [← hq, beq_iff_eq]
      clear hc hx
      cases q with
      | true =>
        simp only [eq_self, eq_iff_iff, iff_true] at hq2
        have HE : Hid (findI ms s = (k : Int)) := by
          show _ = _
          have e := nmEq_of hq
          unfold findI
          rw [if_pos (hasK_iff.2 ⟨x, List.mem_of_getElem? HX.out, e⟩), ← hasK_at HR.out HX.out e]
        clear hq
        go_wp2
        go_ret
        exact ⟨by rw [HE.out]; rfl, rfl⟩
      | false =>
        simp only [Bool.false_eq_true, eq_iff_iff, iff_false] at hq2
        go_wp2
        go_roundg (gk - 1)
        case measure => omega
        case rel =>
          exact ⟨k + 1, by omega, by go_num, rfl, fun j f' hj hf' => by
            by_cases hjk : j = k
            · subst hjk
              rw [HX.out] at hf'
              injection hf' with hf'
              subst hf'
              exact nmEq_not HQ.out
            · exact HA.out j f' (by omega) hf'⟩
    · obtain rfl : k = l := by omega
      have HE : Hid (findI ms s = -1) := by
        show _ = _
        unfold findI
        have hn : hasK LM.nm ms s = false := hasK_not.2 (fun x hx => by
          obtain ⟨j, hj⟩ := List.mem_iff_getElem?.1 hx
          exact HA.out j x (by have := (List.getElem?_eq_some_iff.1 hj).1; have := HL.out; omega) hj)
        rw [hn]; rfl
      go_wp2
      go_ret
      exact ⟨by rw [HE.out]; rfl, rfl⟩

set_option maxHeartbeats 1000000 in
theorem ref24Room_any (A : Option Addr) (l c : Nat) (ms : List LM) (s : ByteArray) (B : Nat) (w : World) (hl : ms.length = l) (hm : l ≤ 1000000000) (hr : RisM ms) (hb : Cells w B A (memCells ms)) :
    Calls Tryd.prog 31 #[.slice A l c, .string s] w fun e w' => e = .returned (.bool (roomM ms s)) ∧ w = w' := by
  have HF := Lib.hid (ref24Find_any A l c ms s B w hl hm hr hb)
  cases ht : hasK LM.nm ms s with
  | true =>
    have hf : findI ms s = (posK LM.nm ms s : Int) := by unfold findI; rw [ht]; rfl
    have HRM : Hid (roomM ms s = true) := by show _ = _; unfold roomM; rw [ht]; rfl
    rw [hf] at HF
    have hge : decide ((posK LM.nm ms s : Int) ≥ 0) = true := by simp
    clear hb hl hr ht hf
    go_enter Tryd.func31, Tryd.ntmps31
    go_wp2_with (go_at_call 30; refine HF.out.mono ?_; rintro e w' ⟨rfl, rfl⟩)
    go_ret
    exact ⟨by rw [HRM.out]; rfl, rfl⟩
  | false =>
    have hf : findI ms s = -1 := by unfold findI; rw [ht]; rfl
    have HRM : Hid (roomM ms s = decide ((l : Int) < 200)) := by show _ = _; unfold roomM; rw [ht, Bool.false_or]; exact decide_eq_decide.2 (by omega)
    rw [hf] at HF
    clear hb hl hr ht hf
    go_enter Tryd.func31, Tryd.ntmps31
    go_wp2_with (go_at_call 30; refine HF.out.mono ?_; rintro e w' ⟨rfl, rfl⟩)
    go_ret
    exact ⟨by rw [HRM.out]; rfl, rfl⟩

set_option maxRecDepth 100000 in
set_option maxHeartbeats 1000000 in
theorem ref24Bytes_any (A : Option Addr) (l c : Nat) (ms : List LM) (B : Nat) (w : World) (hl : ms.length = l) (hm : l ≤ 1000000000) (hr : rowsM ms ≤ 1000000000) (hb : Cells w B A (memCells ms)) :
    Calls Tryd.prog 16 #[.slice A l c] w fun e w' => e = .returned (.int .i64 ((rowsM ms + 20 : Nat) : Int)) ∧ w = w' := by
  have HC := Lib.hid hb
  have HFL := Lib.hid (mems_len ms)
  have HL := Lib.hid hl
  have HSM := Lib.hid (rowsM_cut ms)
  have HRB := Lib.hid hr
  clear hb hl hr
  go_enter Tryd.func16, Tryd.ntmps16
  go_wp2
  go_loopg [3, 4] l (fun gk v i wr => ∃ k : Nat, k + gk = l ∧ i = .int .i64 k ∧ v = .int .i64 ((rowsM (ms.take k) + 20 : Nat) : Int) ∧ wr = w)
  case atStart => exact ⟨0, by omega, rfl, rfl, rfl⟩
  case round =>
    obtain ⟨k, hk, rfl, rfl, rfl⟩ := hrel
    by_cases h : k < l
    · obtain ⟨x, hx⟩ : ∃ x, ms[k]? = some x := ⟨_, List.getElem?_eq_getElem (by have := HL.out; omega)⟩
      obtain ⟨b, o, rfl, hbB, hc⟩ := HC.out (by rw [HFL.out]; have := HL.out; omega)
      have c0 := (mem_at hbB hc (Below.refl _ _) hx).c0
      have HS1 := Lib.hid (rowsM_take hx)
      have h2 := HSM.out (k + 1)
      rw [HS1.out] at h2
      have hr0 := HRB.out
      have hw1 : IntKind.i64.wrap ((k : Int) + 1) = (k : Int) + 1 := IntWalk.i64_in _ (by omega)
      clear hc hx
      go_wp2
      go_roundg (gk - 1)
      case measure => omega
      case rel => exact ⟨k + 1, by omega, by go_num, by rw [HS1.out]; go_num, rfl⟩
    · obtain rfl : k = l := by omega
      have HK : Hid (rowsM (ms.take k) = rowsM ms) := by show _ = _; rw [List.take_of_length_le (by have := HL.out; omega)]
      rw [HK.out]
      go_wp2
      go_ret
      exact ⟨rfl, rfl⟩

set_option maxRecDepth 100000 in
set_option maxHeartbeats 1000000 in
theorem ref24Without_any (A : Option Addr) (l c : Nat) (ms : List LM) (s : ByteArray) (B : Nat) (w : World) (hl : ms.length = l) (hm : l ≤ 1000000000) (hb : Cells w B A (memCells ms)) (hB : B ≤ w.heap.size) :
    Calls Tryd.prog 33 #[.slice A l c, .string s] w fun e w' => ∃ A' c', e = .returned (.slice A' (outK LM.nm ms s).length c') ∧ w'.ownsRow w.heap.size 32 7 (.slice A' (outK LM.nm ms s).length c') (outK LM.nm ms s).length (memCells (outK LM.nm ms s)) ∧ Below w.heap.size w w' := by
  have HC := Lib.hid hb
  have HFL := Lib.hid (mems_len ms)
  have HL := Lib.hid hl
  have HB := Lib.hid hB
  clear hb hl hB
  go_enter Tryd.func33, Tryd.ntmps33
  go_wp2
  go_loopg [5, 6] l (fun gk v i wr => ∃ k : Nat, ∃ os : List LM, k + gk = l ∧ i = .int .i64 k ∧ os = outK LM.nm (ms.take k) s ∧ wr.ownsRow w.heap.size 32 7 v os.length (memCells os) ∧ Below w.heap.size w wr)
  case atStart => exact ⟨0, [], by omega, rfl, rfl, World.ownsRow_nil _ _ _ _, Below.refl _ _⟩
  case round =>
    obtain ⟨k, os, hk, rfl, hos, hown, hbel⟩ := hrel
    have HOWN := Lib.hid hown
    have HBL := Lib.hid hbel
    have HOS := Lib.hid hos
    clear hown hbel hos
    obtain ⟨Ak, ck, rfl⟩ := own_form' HOWN.out
    by_cases h : k < l
    · obtain ⟨x, hx⟩ : ∃ x, ms[k]? = some x := ⟨_, List.getElem?_eq_getElem (by have := HL.out; omega)⟩
      obtain ⟨b, o, rfl, hbB, hc⟩ := HC.out (by rw [HFL.out]; have := HL.out; omega)
      obtain ⟨c0, c1, c2, c3, c4, c5, c6⟩ := mem_at hbB hc (hBw_below HBL.out HB.out) hx
      have HTK := Lib.hid (take_snoc hx)
      have hw1 : IntKind.i64.wrap ((k : Int) + 1) = (k : Int) + 1 := IntWalk.i64_in _ (by omega)
      obtain ⟨q, hq⟩ : ∃ q, (x.nm.toList == s.toList) = q := ⟨_, rfl⟩
      have HQ := Lib.hid hq
      have hq2 : (x.nm.toList = s.toList) = (q = true) := by rw [← hq, beq_iff_eq]
      have HOL : Hid (os.length ≤ k) := by
        show _ ≤ _
        rw [HOS.out]
        exact Nat.le_trans (List.length_filter_le _ _) (by rw [List.length_take]; omega)
      clear hc hx
      cases q with
      | true =>
        simp only [eq_self, eq_iff_iff, iff_true] at hq2
        go_wp2
        go_roundg (gk - 1)
        case measure => omega
        case rel =>
          refine ⟨k + 1, os, by omega, by go_num, ?_, HOWN.out, HBL.out⟩
          rw [HTK.out, HOS.out]
          unfold outK
          rw [List.filter_append, List.filter_cons_of_neg (by simp [nmEq_of HQ.out]), List.filter_nil, List.append_nil]
      | false =>
        simp only [Bool.false_eq_true, eq_iff_iff, iff_false] at hq2
        have hz0 := HBL.out.size
        have hol := HOL.out
        go_wp2_with (at_builtin; go_must (skip; refine wpList_app1 _ memElem rfl (.tmp 20) (.tmp 25) rfl w.heap.size (.slice Ak os.length ck) os.length _ rfl HOWN.out #[.string x.nm, .int .i64 x.at_, .int .i64 x.fr, .int .i64 x.ar, .int .i64 x.sz, .int .u32 x.su, .int .i64 x.me] rfl rfl (by intro u hu; simp only [List.mem_cons, List.not_mem_nil, or_false] at hu; rcases hu with rfl | rfl | rfl | rfl | rfl | rfl | rfl <;> rfl) (by unfold maxLen; omega) (by omega) hz0 ?_; intro A3 c3 w3 hA; have HA := Lib.hid hA; clear hA))
        go_roundg (gk - 1)
        case measure => omega
        case rel =>
          have e : outK LM.nm (ms.take (k + 1)) s = os ++ [x] := by
            rw [HTK.out, HOS.out]
            unfold outK
            rw [List.filter_append, List.filter_cons_of_pos (by simp [nmEq_not HQ.out]), List.filter_nil]
          have ho := HA.out.own
          refine ⟨k + 1, os ++ [x], by omega, by go_num, e.symm, ?_, HA.out.below HBL.out HBL.out.size (fun q hq => (HOWN.out.lt q hq).1)⟩
          rw [memCells_snoc, List.length_append]
          exact ho
    · obtain rfl : k = l := by omega
      have HK : Hid (outK LM.nm ms s = os) := by show _ = _; rw [HOS.out, List.take_of_length_le (by have := HL.out; omega)]
      go_wp2
      go_ret
      rw [HK.out]
      exact ⟨Ak, ck, rfl, HOWN.out, HBL.out⟩

set_option maxRecDepth 100000 in
set_option maxHeartbeats 4000000 in
theorem ref24With_any (A : Option Addr) (l c : Nat) (ms : List LM) (m : LM) (B : Nat) (w : World) (hl : ms.length = l) (hm : l ≤ 1000000000) (hr : RisM ms) (hb : Cells w B A (memCells ms)) (hB : B ≤ w.heap.size) :
    Calls Tryd.prog 32 #[.slice A l c, aggM m] w fun e w' => ∃ A' c', e = .returned (.slice A' (withK LM.nm ms m).length c') ∧ w'.ownsRow w.heap.size 32 7 (.slice A' (withK LM.nm ms m).length c') (withK LM.nm ms m).length (memCells (withK LM.nm ms m)) ∧ Below w.heap.size w w' := by
  obtain ⟨W0, hW0⟩ : ∃ W0, w.alloc (.cells #[.string m.nm, .int .i64 m.at_, .int .i64 m.fr, .int .i64 m.ar, .int .i64 m.sz, .int .u32 m.su, .int .i64 m.me] 32) = W0 := ⟨_, rfl⟩
  have HB0 : Hid (Below w.heap.size w W0) := by rw [← hW0]; exact (Below.refl _ w).alloc (Nat.le_refl _) _
  have HX0 : Hid (Box W0 w.heap.size #[.string m.nm, .int .i64 m.at_, .int .i64 m.fr, .int .i64 m.ar, .int .i64 m.sz, .int .u32 m.su, .int .i64 m.me] 32) := by rw [← hW0]; exact heap_alloc_new w _
  have HC := Lib.hid (hb.below HB0.out hB)
  have HFL := Lib.hid (mems_len ms)
  have HL := Lib.hid hl
  have HR := Lib.hid hr
  have HB : Hid (B ≤ W0.heap.size) := Nat.le_trans hB HB0.out.size
  clear hb hl hB hr
  go_enter Tryd.func32, Tryd.ntmps32
  go_wp2
  clear hW0
  go_loopg [5, 6, 7] l (fun gk v p i wr => ∃ k : Nat, ∃ pt : Bool, ∃ os : List LM, k + gk = l ∧ i = .int .i64 k ∧ p = .bool pt ∧ os = (if pt then withK LM.nm (ms.take k) m else ms.take k) ∧ (pt = false → ∀ x ∈ ms.take k, ltN x.nm m.nm = true) ∧ (pt = true → ∃ j x, j < k ∧ ms[j]? = some x ∧ ltN x.nm m.nm = false) ∧ wr.ownsRow W0.heap.size 32 7 v os.length (memCells os) ∧ os.length ≤ k + 1 ∧ Below W0.heap.size W0 wr)
  case atStart => exact ⟨0, false, [], by omega, rfl, rfl, rfl, (fun _ x hx => by simp at hx), (fun h => by cases h), World.ownsRow_nil _ _ _ _, Nat.zero_le _, Below.refl _ _⟩
  case round =>
    obtain ⟨k, pt, os, hk, rfl, rfl, hos, hlow, hhi, hown, hol, hbel⟩ := hrel
    have HOWN := Lib.hid hown
    have HBL := Lib.hid hbel
    have HOS := Lib.hid hos
    have HLOW := Lib.hid hlow
    have HHI := Lib.hid hhi
    have HX1 := Lib.hid (HX0.out.below hbel HX0.out.lt)
    obtain ⟨b0, b1, b2, b3, b4, b5, b6, _⟩ := box7 HX1.out
    clear hown hbel hos hlow hhi
    obtain ⟨Ak, ck, rfl⟩ := own_form' HOWN.out
    by_cases h : k < l
    · obtain ⟨x, hx⟩ : ∃ x, ms[k]? = some x := ⟨_, List.getElem?_eq_getElem (by have := HL.out; omega)⟩
      obtain ⟨b, o, rfl, hbB, hc⟩ := HC.out (by rw [HFL.out]; have := HL.out; omega)
      have HMT := Lib.hid (fun W (hW : Below W0.heap.size W0 W) => mem_at hbB hc (hBw_below hW HB.out) hx)
      obtain ⟨c0, c1, c2, c3, c4, c5, c6⟩ := HMT.out wr HBL.out
      have HTK := Lib.hid (take_snoc hx)
      have HX := Lib.hid hx
      have hw1 : IntKind.i64.wrap ((k : Int) + 1) = (k : Int) + 1 := IntWalk.i64_in _ (by omega)
      obtain ⟨W1, hW1⟩ : ∃ W1, wr = W1 := ⟨_, rfl⟩
      clear hc hx
      cases pt with
      | true =>
        obtain ⟨j, y, hj, hy, hjl⟩ := HHI.out rfl
        have HGT : Hid (ltN m.nm x.nm = true) := by
          show _ = _
          have h1 := ris_get HR.out hy HX.out hj
          cases e : ltN m.nm y.nm with
          | true => exact ltN_trans e h1
          | false => rw [ltN_total e hjl]; exact h1
        have HJ := Lib.hid (show ∃ j x, j < k + 1 ∧ ms[j]? = some x ∧ ltN x.nm m.nm = false from ⟨j, y, by omega, hy, hjl⟩)
        have hne : (m.nm.toList == x.nm.toList) = false := by rw [nmEq_dec]; exact decide_eq_false (ltN_ne HGT.out)
        have hne2 : ¬ m.nm.toList = x.nm.toList := by simpa using hne
        clear hy hjl hj
        subst hW1
        go_wp2_with fail
        go_quiet (fail)
        generalize nq = nq1
        go_wp2_with fail
        go_quiet (fail)
        obtain ⟨V, hV⟩ : ∃ V, V = ((wr.drewN nq1).drewN nq) := ⟨_, rfl⟩
        rw [← hV]
        have HOV : Hid (V.ownsRow W0.heap.size 32 7 (.slice Ak os.length ck) os.length (memCells os)) := by show World.ownsRow _ _ _ _ _ _ _; rw [hV]; exact HOWN.out
        have HBV : Hid (Below W0.heap.size W0 V) := by show Below _ _ _; rw [hV]; exact Below.drewN (Below.drewN HBL.out _) _
        clear hV c0 c1 c2 c3 c4 c5 c6 b0 b1 b2 b3 b4 b5 b6
        obtain ⟨c0, c1, c2, c3, c4, c5, c6⟩ := HMT.out V HBV.out
        go_wp2_with (at_builtin; go_must (skip; refine wpList_app1 _ memElem rfl (.tmp 38) (.tmp 43) rfl W0.heap.size (.slice Ak os.length ck) os.length _ rfl HOV.out #[.string x.nm, .int .i64 x.at_, .int .i64 x.fr, .int .i64 x.ar, .int .i64 x.sz, .int .u32 x.su, .int .i64 x.me] rfl rfl (by intro u hu; simp only [List.mem_cons, List.not_mem_nil, or_false] at hu; rcases hu with rfl | rfl | rfl | rfl | rfl | rfl | rfl <;> rfl) (by unfold maxLen; omega) (by omega) HBV.out.size ?_; intro A3 cp3 w3 hA; have HA3 := Lib.hid hA; clear hA))
        go_roundg (gk - 1)
        case measure => omega
        case rel =>
          have ho := HA3.out.own
          refine ⟨k + 1, true, os ++ [x], by omega, by go_num, rfl, ?_, (fun h => by cases h), (fun _ => HJ.out), ?_, by rw [List.length_append, List.length_singleton]; omega, HA3.out.below HBV.out HBV.out.size (fun q hq => (HOV.out.lt q hq).1)⟩
          · have e0 : os = withK LM.nm (ms.take k) m := by simpa using HOS.out
            rw [if_pos rfl, HTK.out, withK_snoc _ HGT.out, e0]
          · rw [memCells_snoc, List.length_append]
            exact ho
      | false =>
        have hos := HOS.out
        replace hos : os = ms.take k := by simpa using hos
        have HOS0 := Lib.hid hos
        clear hos HOS
        have HLO := Lib.hid (HLOW.out rfl)
        obtain ⟨q, hq⟩ : ∃ q, ltN x.nm m.nm = q := ⟨_, rfl⟩
        have hle : (Op.bytesLess m.nm.toList x.nm.toList || m.nm.toList == x.nm.toList) = !q := by rw [← hq]; exact leB_lt _ _
        have HQ := Lib.hid hq
        clear hq HHI HLOW
        subst hW1
        cases q with
        | true =>
          have hne : (m.nm.toList == x.nm.toList) = false := by rw [nmEq_dec]; exact decide_eq_false (fun e => by have := HQ.out; rw [e, ltN_irrefl] at this; cases this)
          have hne2 : ¬ m.nm.toList = x.nm.toList := by simpa using hne
          have hlt0 : Op.bytesLess m.nm.toList x.nm.toList = false := bl_asymm _ _ HQ.out
          clear hle
          go_wp2_with fail
          go_quiet (fail)
          generalize nq = nq1
          go_wp2_with fail
          go_quiet (fail)
          obtain ⟨V, hV⟩ : ∃ V, V = ((wr.drewN nq1).drewN nq) := ⟨_, rfl⟩
          rw [← hV]
          have HOV : Hid (V.ownsRow W0.heap.size 32 7 (.slice Ak os.length ck) os.length (memCells os)) := by show World.ownsRow _ _ _ _ _ _ _; rw [hV]; exact HOWN.out
          have HBV : Hid (Below W0.heap.size W0 V) := by show Below _ _ _; rw [hV]; exact Below.drewN (Below.drewN HBL.out _) _
          clear hV c0 c1 c2 c3 c4 c5 c6 b0 b1 b2 b3 b4 b5 b6
          obtain ⟨c0, c1, c2, c3, c4, c5, c6⟩ := HMT.out V HBV.out
          go_wp2_with (at_builtin; go_must (skip; refine wpList_app1 _ memElem rfl (.tmp 38) (.tmp 43) rfl W0.heap.size (.slice Ak os.length ck) os.length _ rfl HOV.out #[.string x.nm, .int .i64 x.at_, .int .i64 x.fr, .int .i64 x.ar, .int .i64 x.sz, .int .u32 x.su, .int .i64 x.me] rfl rfl (by intro u hu; simp only [List.mem_cons, List.not_mem_nil, or_false] at hu; rcases hu with rfl | rfl | rfl | rfl | rfl | rfl | rfl <;> rfl) (by unfold maxLen; omega) (by omega) HBV.out.size ?_; intro A3 cp3 w3 hA; have HA3 := Lib.hid hA; clear hA))
          go_roundg (gk - 1)
          case measure => omega
          case rel =>
            have ho := HA3.out.own
            refine ⟨k + 1, false, os ++ [x], by omega, by go_num, rfl, ?_, (fun _ y hy => ?_), (fun h => by cases h), ?_, by rw [List.length_append, List.length_singleton]; omega, HA3.out.below HBV.out HBV.out.size (fun q hq => (HOV.out.lt q hq).1)⟩
            · rw [if_neg (by decide), HTK.out, HOS0.out]
            · rw [HTK.out] at hy
              rcases List.mem_append.1 hy with hy | hy
              · exact HLO.out y hy
              · rw [List.mem_singleton.1 hy]; exact HQ.out
            · rw [memCells_snoc, List.length_append]
              exact ho
        | false =>
          have HJ := Lib.hid (show ∃ j x, j < k + 1 ∧ ms[j]? = some x ∧ ltN x.nm m.nm = false from ⟨k, x, by omega, HX.out, HQ.out⟩)
          obtain ⟨q2, hq2⟩ : ∃ q2, (m.nm.toList == x.nm.toList) = q2 := ⟨_, rfl⟩
          have HQ2 := Lib.hid hq2
          clear hle
          cases q2 with
          | true =>
            have heq2 : m.nm.toList = x.nm.toList := by simpa using hq2
            have HXM : Hid (x.nm = m.nm) := (nmEq_of HQ2.out).symm
            have hlt0 : Op.bytesLess m.nm.toList x.nm.toList = false := by rw [heq2]; exact bl_irrefl _
            have hlt1 : Op.bytesLess x.nm.toList x.nm.toList = false := bl_irrefl _
            go_wp2_with fail
            go_quiet (fail)
            generalize nq = nq1
            obtain ⟨V, hV⟩ : ∃ V, V = (wr.drewN nq1) := ⟨_, rfl⟩
            rw [← hV]
            have HOV : Hid (V.ownsRow W0.heap.size 32 7 (.slice Ak os.length ck) os.length (memCells os)) := by show World.ownsRow _ _ _ _ _ _ _; rw [hV]; exact HOWN.out
            have HBV : Hid (Below W0.heap.size W0 V) := by show Below _ _ _; rw [hV]; exact Below.drewN HBL.out _
            have HXV := Lib.hid (HX0.out.below HBV.out HX0.out.lt)
            clear hV c0 c1 c2 c3 c4 c5 c6 b0 b1 b2 b3 b4 b5 b6
            obtain ⟨c0, c1, c2, c3, c4, c5, c6⟩ := HMT.out V HBV.out
            obtain ⟨b0, b1, b2, b3, b4, b5, b6, _⟩ := box7 HXV.out
            go_wp2_with (at_builtin; go_must (skip; refine wpList_app1 _ memElem rfl (.tmp 26) (.tmp 28) rfl W0.heap.size (.slice Ak os.length ck) os.length _ rfl HOV.out #[.string m.nm, .int .i64 m.at_, .int .i64 m.fr, .int .i64 m.ar, .int .i64 m.sz, .int .u32 m.su, .int .i64 m.me] rfl rfl (by intro u hu; simp only [List.mem_cons, List.not_mem_nil, or_false] at hu; rcases hu with rfl | rfl | rfl | rfl | rfl | rfl | rfl <;> rfl) (by unfold maxLen; omega) (by omega) HBV.out.size ?_; intro A3 cp3 w3 hA; have HA3 := Lib.hid hA; clear hA))
            have HB3 := Lib.hid (HA3.out.below HBV.out HBV.out.size (fun q hq => (HOV.out.lt q hq).1))
            have HX3 := Lib.hid (HX0.out.below HB3.out HX0.out.lt)
            clear c0 c1 c2 c3 c4 c5 c6 b0 b1 b2 b3 b4 b5 b6
            obtain ⟨d0, d1, d2, d3, d4, d5, d6⟩ := HMT.out w3 HB3.out
            obtain ⟨b0, b1, b2, b3, b4, b5, b6, _⟩ := box7 HX3.out
            go_wp2_with fail
            go_quiet (fail)
            go_wp2
            go_roundg (gk - 1)
            case measure => omega
            case rel =>
              have ho := HA3.out.own
              have he : os ++ [m] = withK LM.nm (ms.take (k + 1)) m := by
                rw [HTK.out, withK_same (fun y hy => HLO.out y hy) HXM.out, HOS0.out]
              refine ⟨k + 1, true, os ++ [m], by omega, by go_num, rfl, by rw [if_pos rfl]; exact he, (fun h => by cases h), (fun _ => HJ.out), ?_, by rw [List.length_append, List.length_singleton]; omega, Below.drewN HB3.out _⟩
              rw [memCells_snoc, List.length_append]
              exact ho
          | false =>
            have hne2 : ¬ m.nm.toList = x.nm.toList := by simpa using hq2
            have HMX : Hid (ltN m.nm x.nm = true) := ltN_gt HQ.out (fun e => by rw [e] at hne2; exact hne2 rfl)
            have hlt0 : Op.bytesLess m.nm.toList x.nm.toList = true := HMX.out
            go_wp2_with fail
            go_quiet (fail)
            generalize nq = nq1
            obtain ⟨V, hV⟩ : ∃ V, V = (wr.drewN nq1) := ⟨_, rfl⟩
            rw [← hV]
            have HOV : Hid (V.ownsRow W0.heap.size 32 7 (.slice Ak os.length ck) os.length (memCells os)) := by show World.ownsRow _ _ _ _ _ _ _; rw [hV]; exact HOWN.out
            have HBV : Hid (Below W0.heap.size W0 V) := by show Below _ _ _; rw [hV]; exact Below.drewN HBL.out _
            have HXV := Lib.hid (HX0.out.below HBV.out HX0.out.lt)
            clear hV c0 c1 c2 c3 c4 c5 c6 b0 b1 b2 b3 b4 b5 b6
            obtain ⟨c0, c1, c2, c3, c4, c5, c6⟩ := HMT.out V HBV.out
            obtain ⟨b0, b1, b2, b3, b4, b5, b6, _⟩ := box7 HXV.out
            go_wp2_with (at_builtin; go_must (skip; refine wpList_app1 _ memElem rfl (.tmp 26) (.tmp 28) rfl W0.heap.size (.slice Ak os.length ck) os.length _ rfl HOV.out #[.string m.nm, .int .i64 m.at_, .int .i64 m.fr, .int .i64 m.ar, .int .i64 m.sz, .int .u32 m.su, .int .i64 m.me] rfl rfl (by intro u hu; simp only [List.mem_cons, List.not_mem_nil, or_false] at hu; rcases hu with rfl | rfl | rfl | rfl | rfl | rfl | rfl <;> rfl) (by unfold maxLen; omega) (by omega) HBV.out.size ?_; intro A3 cp3 w3 hA; have HA3 := Lib.hid hA; clear hA))
            have HB3 := Lib.hid (HA3.out.below HBV.out HBV.out.size (fun q hq => (HOV.out.lt q hq).1))
            have HX3 := Lib.hid (HX0.out.below HB3.out HX0.out.lt)
            clear c0 c1 c2 c3 c4 c5 c6 b0 b1 b2 b3 b4 b5 b6
            obtain ⟨d0, d1, d2, d3, d4, d5, d6⟩ := HMT.out w3 HB3.out
            obtain ⟨b0, b1, b2, b3, b4, b5, b6, _⟩ := box7 HX3.out
            go_wp2_with fail
            go_quiet (fail)
            obtain ⟨V2, hV2⟩ : ∃ V2, V2 = (w3.drewN nq) := ⟨_, rfl⟩
            rw [← hV2]
            have HO2 : Hid (V2.ownsRow W0.heap.size 32 7 (.slice A3 (os.length + 1) cp3) (os.length + 1) (memCells (os ++ [m]))) := by show World.ownsRow _ _ _ _ _ _ _; rw [hV2, memCells_snoc]; exact HA3.out.own
            have HBV2 : Hid (Below W0.heap.size W0 V2) := by show Below _ _ _; rw [hV2]; exact Below.drewN HB3.out _
            clear hV2 d0 d1 d2 d3 d4 d5 d6 b0 b1 b2 b3 b4 b5 b6
            obtain ⟨c0, c1, c2, c3, c4, c5, c6⟩ := HMT.out V2 HBV2.out
            go_wp2_with (at_builtin; go_must (skip; refine wpList_app1 _ memElem rfl (.tmp 38) (.tmp 43) rfl W0.heap.size (.slice A3 (os.length + 1) cp3) (os.length + 1) _ rfl HO2.out #[.string x.nm, .int .i64 x.at_, .int .i64 x.fr, .int .i64 x.ar, .int .i64 x.sz, .int .u32 x.su, .int .i64 x.me] rfl rfl (by intro u hu; simp only [List.mem_cons, List.not_mem_nil, or_false] at hu; rcases hu with rfl | rfl | rfl | rfl | rfl | rfl | rfl <;> rfl) (by unfold maxLen; omega) (by omega) HBV2.out.size ?_; intro A5 cp5 w5 hA; have HA5 := Lib.hid hA; clear hA))
            go_roundg (gk - 1)
            case measure => omega
            case rel =>
              have ho := HA5.out.own
              have he : os ++ [m] ++ [x] = withK LM.nm (ms.take (k + 1)) m := by
                rw [HTK.out, withK_snoc _ HMX.out, withK_all (fun y hy => HLO.out y hy), HOS0.out]
              refine ⟨k + 1, true, os ++ [m] ++ [x], by omega, by go_num, rfl, by rw [if_pos rfl]; exact he, (fun h => by cases h), (fun _ => HJ.out), ?_, by have hl := congrArg List.length HOS0.out; rw [List.length_take] at hl; rw [List.length_append, List.length_append, List.length_singleton, List.length_singleton]; omega, HA5.out.below HBV2.out HBV2.out.size (fun q hq => (HO2.out.lt q hq).1)⟩
              rw [memCells_snoc, List.length_append, List.length_append]
              exact ho
    · obtain rfl : k = l := by omega
      have HTA : Hid (ms.take k = ms) := by show _ = _; rw [List.take_of_length_le (by have := HL.out; omega)]
      cases pt with
      | true =>
        have HE : Hid (withK LM.nm ms m = os) := by show _ = _; have := HOS.out; rw [HTA.out] at this; simpa using this.symm
        go_wp2
        go_ret
        rw [HE.out]
        exact ⟨Ak, ck, rfl, own_low HOWN.out HB0.out.size, HB0.out.trans (HBL.out.mono HB0.out.size)⟩
      | false =>
        have HE : Hid (withK LM.nm ms m = os ++ [m]) := by
          show _ = _
          have := HOS.out
          rw [HTA.out] at this
          have h2 := HLOW.out rfl
          rw [HTA.out] at h2
          rw [withK_all h2]
          simpa using this.symm
        go_wp2_with (at_builtin; go_must (skip; refine wpList_app1 _ memElem rfl (.tmp 47) (.tmp 49) rfl W0.heap.size (.slice Ak os.length ck) os.length _ rfl HOWN.out #[.string m.nm, .int .i64 m.at_, .int .i64 m.fr, .int .i64 m.ar, .int .i64 m.sz, .int .u32 m.su, .int .i64 m.me] rfl rfl (by intro u hu; simp only [List.mem_cons, List.not_mem_nil, or_false] at hu; rcases hu with rfl | rfl | rfl | rfl | rfl | rfl | rfl <;> rfl) (by unfold maxLen; omega) (by omega) HBL.out.size ?_; intro A3 cp3 w3 hA; have HA3 := Lib.hid hA; clear hA))
        go_ret
        rw [HE.out]
        refine ⟨A3, cp3, by rw [List.length_append]; rfl, ?_, HB0.out.trans ((HA3.out.below HBL.out HBL.out.size (fun q hq => (HOWN.out.lt q hq).1)).mono HB0.out.size)⟩
        rw [memCells_snoc, List.length_append]
        exact own_low HA3.out.own HB0.out.size
end Go.Proofs.YtjoifgeljjgflaaDoor
