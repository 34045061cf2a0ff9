/- Layer 19: are members a directory? -/
import Derived.Test.YtjoifgeljjgflaaDoorMgQ14421
import Derived.Test.YtjoifgeljjgflaaDoorMgQ14410
import Derived.Deep.DeepCutAuto
import Derived.IntWalk
namespace Go.Proofs.YtjoifgeljjgflaaDoor
open Go.RowKit

/-- What came in is within its types. -/
def LM.Ok (m : LM) : Prop := m.nm.size ≤ maxLen ∧ -9223372036854775808 ≤ m.fr ∧ m.fr ≤ 9223372036854775807 ∧ 0 ≤ m.su ∧ m.su < 4294967296
def LM.B (m : LM) : Bool := memB m.nm m.at_ m.fr m.ar m.sz m.me
/-- Is a text no greater than another one? -/
def leB (a b : ByteArray) : Bool := Op.bytesLess a.toList b.toList || a.toList == b.toList
/-- The first k members may be, and rise. -/
def goodTo (ms : List LM) (k : Nat) : Prop := ∀ j, j < k → ∃ m, ms[j]? = some m ∧ m.B = true ∧ ∀ p, 0 < j → ms[j - 1]? = some p → leB m.nm p.nm = false
noncomputable def allB (ms : List LM) : Bool := @decide (ms.length ≤ 200 ∧ goodTo ms ms.length) (Classical.propDecidable _)
theorem allB_true {ms : List LM} : allB ms = true ↔ ms.length ≤ 200 ∧ goodTo ms ms.length := by unfold allB; exact @decide_eq_true_iff _ (Classical.propDecidable _)
theorem allB_of {ms : List LM} (h : ms.length ≤ 200) (hg : goodTo ms ms.length) : allB ms = true := allB_true.2 ⟨h, hg⟩
theorem allB_long {ms : List LM} (h : 200 < ms.length) : allB ms = false := by cases e : allB ms with | false => rfl | true => have := (allB_true.1 e).1; omega
theorem allB_bad {ms : List LM} {k : Nat} {m : LM} (h : ms[k]? = some m) (hb : m.B = false) : allB ms = false := by
  cases e : allB ms with
  | false => rfl
  | true =>
    obtain ⟨m', h1, h2, _⟩ := (allB_true.1 e).2 k (List.getElem?_eq_some_iff.1 h).1
    rw [h] at h1; injection h1 with h1; subst h1; rw [hb] at h2; cases h2
theorem allB_low {ms : List LM} {k : Nat} {m p : LM} (h : ms[k]? = some m) (h0 : 0 < k) (hp : ms[k - 1]? = some p) (hb : leB m.nm p.nm = true) : allB ms = false := by
  cases e : allB ms with
  | false => rfl
  | true =>
    obtain ⟨m', h1, _, h3⟩ := (allB_true.1 e).2 k (List.getElem?_eq_some_iff.1 h).1
    rw [h] at h1; injection h1 with h1; subst h1
    rw [h3 p h0 hp] at hb; cases hb
theorem goodTo_zero (ms : List LM) : goodTo ms 0 := fun _ hj => absurd hj (Nat.not_lt_zero _)
theorem goodTo_succ {ms : List LM} {k : Nat} {m : LM} (hg : goodTo ms k) (h : ms[k]? = some m) (hb : m.B = true) (hl : ∀ p, 0 < k → ms[k - 1]? = some p → leB m.nm p.nm = false) : goodTo ms (k + 1) := fun j hj => by
  by_cases e : j = k
  · subst e; exact ⟨m, h, hb, hl⟩
  · exact hg j (by omega)
theorem mems_len (ms : List LM) : (ms.map LM.cells).flatten.length = ms.length * 7 := by
  induction ms with
  | nil => rfl
  | cons m l ih => rw [List.map_cons, List.flatten_cons, List.length_append, ih, List.length_cons]; show 7 + _ = _; omega
theorem mems_at {ms : List LM} {k r : Nat} {m : LM} {u : Value} (h : ms[k]? = some m) (hu : m.cells[r]? = some u) : (ms.map LM.cells).flatten[k * 7 + r]? = some u :=
  flatten_at (fun x hx => by obtain ⟨m', _, rfl⟩ := List.mem_map.1 hx; rfl) (by rw [List.getElem?_map, h]; rfl) hu
theorem hBw_below {w W : World} {B : Nat} (h : Below w.heap.size w W) (hB : B ≤ w.heap.size) : Below B w W := h.mono hB
/-- The cells of a member of a list that lies in memory. -/
structure MemAt (w : World) (b a : Nat) (m : LM) : Prop where
  c0 : w.cell? ⟨b, a, none⟩ = some (.string m.nm)
  c1 : w.cell? ⟨b, a + 1, none⟩ = some (.int .i64 m.at_)
  c2 : w.cell? ⟨b, a + 2, none⟩ = some (.int .i64 m.fr)
  c3 : w.cell? ⟨b, a + 3, none⟩ = some (.int .i64 m.ar)
  c4 : w.cell? ⟨b, a + 4, none⟩ = some (.int .i64 m.sz)
  c5 : w.cell? ⟨b, a + 5, none⟩ = some (.int .u32 m.su)
  c6 : w.cell? ⟨b, a + 6, none⟩ = some (.int .i64 m.me)
theorem mem_at {w W : World} {B b o : Nat} {ms : List LM} {k : Nat} {m : LM} (hbB : b < B) (hc : ∀ j u, (ms.map LM.cells).flatten[j]? = some u → w.cell? ⟨b, o + j, none⟩ = some u) (hB : Below B w W) (h : ms[k]? = some m) : MemAt W b (o + k * 7) m where
  c0 := (hB.cell (p := ⟨b, o + k * 7, none⟩) hbB).trans (by have := hc (k * 7 + 0) _ (mems_at h (r := 0) rfl); simpa [Nat.add_assoc] using this)
  c1 := (hB.cell (p := ⟨b, o + k * 7 + 1, none⟩) hbB).trans (by have := hc (k * 7 + 1) _ (mems_at h (r := 1) rfl); simpa [Nat.add_assoc] using this)
  c2 := (hB.cell (p := ⟨b, o + k * 7 + 2, none⟩) hbB).trans (by have := hc (k * 7 + 2) _ (mems_at h (r := 2) rfl); simpa [Nat.add_assoc] using this)
  c3 := (hB.cell (p := ⟨b, o + k * 7 + 3, none⟩) hbB).trans (by have := hc (k * 7 + 3) _ (mems_at h (r := 3) rfl); simpa [Nat.add_assoc] using this)
  c4 := (hB.cell (p := ⟨b, o + k * 7 + 4, none⟩) hbB).trans (by have := hc (k * 7 + 4) _ (mems_at h (r := 4) rfl); simpa [Nat.add_assoc] using this)
  c5 := (hB.cell (p := ⟨b, o + k * 7 + 5, none⟩) hbB).trans (by have := hc (k * 7 + 5) _ (mems_at h (r := 5) rfl); simpa [Nat.add_assoc] using this)
  c6 := (hB.cell (p := ⟨b, o + k * 7 + 6, none⟩) hbB).trans (by have := hc (k * 7 + 6) _ (mems_at h (r := 6) rfl); simpa [Nat.add_assoc] using this)

set_option maxHeartbeats 400000 in
theorem enAll_long (A : Option Addr) (l c : Nat) (w : World) (h : 200 < l) :
    Calls Tryd.prog 27 #[.slice A l c] w fun e w' => e = .returned (.bool false) ∧ w = w' := by
  have hd : decide ((200 : Int) < (l : Int)) = true := by simp; omega
  clear h
  go_enter Tryd.func27, Tryd.ntmps27
  go_wp2
  go_ret
  exact ⟨rfl, rfl⟩

set_option maxRecDepth 100000 in
set_option maxHeartbeats 4000000 in
theorem enAll_short (A : Option Addr) (l c : Nat) (ms : List LM) (B : Nat) (w : World) (hl : ms.length = l) (hm : l ≤ 200) (hok : ∀ m ∈ ms, m.Ok) (hb : Cells w B A (ms.map LM.cells).flatten) (hB : B ≤ w.heap.size) :
    Calls Tryd.prog 27 #[.slice A l c] w fun e w' => e = .returned (.bool (allB ms)) ∧ Below w.heap.size w w' := by
  have HC := Lib.hid hb
  have HL := Lib.hid hl
  have HFL := Lib.hid (mems_len ms)
  have HOK := Lib.hid hok
  have HB := Lib.hid hB
  have hd : decide ((200 : Int) < (l : Int)) = false := by simp; omega
  clear hb hok hB hl
  go_enter Tryd.func27, Tryd.ntmps27
  go_wp2
  go_loopg [10] l (fun gk i wr => ∃ k : Nat, k + gk = l ∧ i = .int .i64 k ∧ Below w.heap.size w wr ∧ goodTo ms k)
  case atStart => exact ⟨0, by omega, rfl, Below.refl _ _, goodTo_zero _⟩
  case round =>
    obtain ⟨k, hk, rfl, hbel, hgood⟩ := hrel
    have HBL := Lib.hid hbel
    have HGD := Lib.hid hgood
    clear hbel hgood
    by_cases h : k < l
    · obtain ⟨m, hx⟩ : ∃ x, ms[k]? = some x := ⟨_, List.getElem?_eq_getElem (by have := HL.out; omega)⟩
      obtain ⟨b, o, rfl, hbB, hc⟩ := HC.out (by rw [HFL.out, HL.out]; omega)
      have hBw := HB.out
      have HM := Lib.hid (mem_at hbB hc (hBw_below HBL.out hBw) hx)
      obtain ⟨c0, c1, c2, c3, c4, c5, c6⟩ := HM.out
      have HX := Lib.hid hx
      have HOKm := Lib.hid (HOK.out m (List.mem_of_getElem? hx))
      obtain ⟨W0, hW0⟩ : ∃ W0, wr.alloc (.cells #[.string m.nm, .int .i64 m.at_, .int .i64 m.fr, .int .i64 m.ar, .int .i64 m.sz, .int .u32 m.su, .int .i64 m.me] 32) = W0 := ⟨_, rfl⟩
      have HX0 : Hid (Box W0 wr.heap.size #[.string m.nm, .int .i64 m.at_, .int .i64 m.fr, .int .i64 m.ar, .int .i64 m.sz, .int .u32 m.su, .int .i64 m.me] 32) := by rw [← hW0]; exact heap_alloc_new wr _
      have HB0 : Hid (Below w.heap.size w W0) := by rw [← hW0]; exact HBL.out.alloc HBL.out.size _
      have HM0 : Hid (∀ j p W, Below W0.heap.size W0 W → ms[j]? = some p → MemAt W b (o + j * 7) p) := fun j p W hW hp => mem_at hbB hc ((hBw_below HB0.out hBw).trans (hW.mono (Nat.le_trans hBw HB0.out.size))) hp
      have HHW := Lib.hid hW0
      clear hc hx
      go_wp2_with fail
      clear c0 c1 c2 c3 c4 c5 c6 hW0
      obtain ⟨ι, f, n0, hf0, hfb, hfu⟩ := below_class W0
      have HFU := Lib.hid hfu
      have HFB := Lib.hid hfb
      have y0 : ∀ n, (f n).cell? ⟨wr.heap.size, 0, none⟩ = some (.string m.nm) := fun n => by rw [(HFB.out n).cell (show wr.heap.size < W0.heap.size from HX0.out.lt)]; exact HX0.out.cell 0
      have y1 : ∀ n, (f n).cell? ⟨wr.heap.size, 1, none⟩ = some (.int .i64 m.at_) := fun n => by rw [(HFB.out n).cell (show wr.heap.size < W0.heap.size from HX0.out.lt)]; exact HX0.out.cell 1
      have y2 : ∀ n, (f n).cell? ⟨wr.heap.size, 2, none⟩ = some (.int .i64 m.fr) := fun n => by rw [(HFB.out n).cell (show wr.heap.size < W0.heap.size from HX0.out.lt)]; exact HX0.out.cell 2
      have y3 : ∀ n, (f n).cell? ⟨wr.heap.size, 3, none⟩ = some (.int .i64 m.ar) := fun n => by rw [(HFB.out n).cell (show wr.heap.size < W0.heap.size from HX0.out.lt)]; exact HX0.out.cell 3
      have y4 : ∀ n, (f n).cell? ⟨wr.heap.size, 4, none⟩ = some (.int .i64 m.sz) := fun n => by rw [(HFB.out n).cell (show wr.heap.size < W0.heap.size from HX0.out.lt)]; exact HX0.out.cell 4
      have y5 : ∀ n, (f n).cell? ⟨wr.heap.size, 5, none⟩ = some (.int .u32 m.su) := fun n => by rw [(HFB.out n).cell (show wr.heap.size < W0.heap.size from HX0.out.lt)]; exact HX0.out.cell 5
      have y6 : ∀ n, (f n).cell? ⟨wr.heap.size, 6, none⟩ = some (.int .i64 m.me) := fun n => by rw [(HFB.out n).cell (show wr.heap.size < W0.heap.size from HX0.out.lt)]; exact HX0.out.cell 6
      haveI : Nonempty ι := ⟨n0⟩
      clear hfb hfu
      have HRT := Lib.hid (fun W => enRight_any m.nm m.at_ m.fr m.ar m.sz m.su m.me W HOKm.out.1)
      obtain ⟨mb, hmb⟩ : ∃ mb, memB m.nm m.at_ m.fr m.ar m.sz m.me = mb := ⟨_, rfl⟩
      rw [hmb] at HRT
      have HMB : Hid (m.B = mb) := hmb
      clear hmb
      cases mb with
      | false =>
        refine region_quiet_f f n0 hf0 (by kernel_rfl) (by kernel_rfl) ?_
        repeat (go_big_quiet_step ((go_at_call 41; exact quiet_f HFU.out (HRT.out _))))
        refine wpQuiet_nil ?_
        rintro _ ⟨nq, rfl⟩
        have HB1 := Lib.hid (HB0.out.trans ((HFB.out nq).mono HB0.out.size))
        clear y0 y1 y2 y3 y4 y5 y6 HFB HFU hf0
        generalize f nq = w1 at *
        go_wp2
        go_ret
        exact ⟨by rw [allB_bad HX.out HMB.out]; rfl, HB1.out⟩
      | true =>
        by_cases hk0 : k = 0
        · subst hk0
          refine region_quiet_f f n0 hf0 (by kernel_rfl) (by kernel_rfl) ?_
          repeat (go_big_quiet_step ((go_at_call 41; exact quiet_f HFU.out (HRT.out _))))
          refine wpQuiet_nil ?_
          rintro _ ⟨nq, rfl⟩
          have HB1 := Lib.hid (HB0.out.trans ((HFB.out nq).mono HB0.out.size))
          clear y0 y1 y2 y3 y4 y5 y6 HFB HFU hf0
          generalize f nq = w1 at *
          go_wp2
          go_roundg (gk - 1)
          case measure => omega
          case rel => exact ⟨1, by omega, by go_num, HB1.out, goodTo_succ HGD.out HX.out HMB.out (fun p h => absurd h (by omega))⟩
        · obtain ⟨p, hp⟩ : ∃ p, ms[k - 1]? = some p := ⟨_, List.getElem?_eq_getElem (by have := HL.out; omega)⟩
          have HP := Lib.hid hp
          have HMP := Lib.hid (fun n => (HM0.out (k - 1) p (f n) (HFB.out n) hp).c0)
          obtain ⟨q, hq⟩ : ∃ q, k - 1 = q := ⟨_, rfl⟩
          rw [hq] at HMP
          have x0 := HMP.out
          have hw1 : IntKind.i64.wrap ((k : Int) - 1) = (q : Int) := by rw [IntWalk.i64_in _ (by omega)]; omega
          have hq0 : (0 : Int) ≤ (q : Int) := by omega
          have hq1 : (q : Int) < (l : Int) := by omega
          have hkd : decide ((0 : Int) < (k : Int)) = true := by simp; omega
          obtain ⟨le, hle⟩ : ∃ le, leB m.nm p.nm = le := ⟨_, rfl⟩
          have hle' : (Op.bytesLess m.nm.toList p.nm.toList || m.nm.toList == p.nm.toList) = le := hle
          have HLE := Lib.hid hle
          have hk1 : 0 < k := by omega
          clear hp hle hk0 hq
          refine region_quiet_f f n0 hf0 (by kernel_rfl) (by kernel_rfl) ?_
          repeat (go_big_quiet_step ((go_at_call 41; exact quiet_f HFU.out (HRT.out _))))
          refine wpQuiet_nil ?_
          rintro _ ⟨nq, rfl⟩
          have HB1 := Lib.hid (HB0.out.trans ((HFB.out nq).mono HB0.out.size))
          clear y0 y1 y2 y3 y4 y5 y6 x0 HMP HFB HFU hf0
          generalize f nq = w1 at *
          cases le with
          | true =>
            go_wp2
            go_ret
            exact ⟨by rw [allB_low HX.out hk1 HP.out HLE.out]; rfl, HB1.out⟩
          | false =>
            go_wp2
            go_roundg (gk - 1)
            case measure => omega
            case rel => exact ⟨k + 1, by omega, by go_num, HB1.out, goodTo_succ HGD.out HX.out HMB.out (fun p' _ hp' => by rw [HP.out] at hp'; injection hp' with hp'; subst hp'; exact HLE.out)⟩
    · obtain rfl : k = l := by omega
      have HT : Hid (allB ms = true) := allB_of (by rw [HL.out]; exact hm) (by rw [HL.out]; exact HGD.out)
      go_wp2
      go_ret
      exact ⟨by rw [HT.out]; rfl, HBL.out⟩

theorem enAll_any (A : Option Addr) (l c : Nat) (ms : List LM) (B : Nat) (w : World) (hl : ms.length = l) (hok : ∀ m ∈ ms, m.Ok) (hb : Cells w B A (ms.map LM.cells).flatten) (hB : B ≤ w.heap.size) :
    Calls Tryd.prog 27 #[.slice A l c] w fun e w' => e = .returned (.bool (allB ms)) ∧ Below w.heap.size w w' := by
  by_cases h : 200 < l
  · rw [allB_long (by omega)]
    exact (enAll_long A l c w h).mono fun _ _ ⟨h1, h2⟩ => ⟨h1, h2 ▸ Below.refl _ _⟩
  · exact enAll_short A l c ms B w hl (by omega) hok hb hB
end Go.Proofs.YtjoifgeljjgflaaDoor
/- Layer 19: are members a directory: the reference's. -/
namespace Go.Proofs.YtjoifgeljjgflaaDoor
open Go.RowKit

set_option maxRecDepth 100000 in
set_option maxHeartbeats 4000000 in
theorem refEnAll_any (A : Option Addr) (l c : Nat) (ms : List LM) (B : Nat) (w : World) (hl : ms.length = l) (hm : l ≤ 1099511627776) (hok : ∀ m ∈ ms, m.Ok) (hb : Cells w B A (ms.map LM.cells).flatten) (hB : B ≤ w.heap.size) :
    Calls Tryd.prog 10 #[.slice A l c] w fun e w' => e = .returned (.bool (allB ms)) ∧ Below w.heap.size w w' := by
  have HC := Lib.hid hb
  have HL := Lib.hid hl
  have HFL := Lib.hid (mems_len ms)
  have HOK := Lib.hid hok
  have HB := Lib.hid hB
  clear hb hok hB hl
  go_enter Tryd.func10, Tryd.ntmps10
  go_wp2
  go_loopg [3] l (fun gk i wr => ∃ k : Nat, k + gk = l ∧ i = .int .i64 k ∧ Below w.heap.size w wr ∧ goodTo ms k)
  case atStart => exact ⟨0, by omega, rfl, Below.refl _ _, goodTo_zero _⟩
  case round =>
    obtain ⟨k, hk, rfl, hbel, hgood⟩ := hrel
    have HBL := Lib.hid hbel
    have HGD := Lib.hid hgood
    clear hbel hgood
    by_cases h : k < l
    · obtain ⟨m, hx⟩ : ∃ x, ms[k]? = some x := ⟨_, List.getElem?_eq_getElem (by have := HL.out; omega)⟩
      obtain ⟨b, o, rfl, hbB, hc⟩ := HC.out (by rw [HFL.out, HL.out]; omega)
      have hBw := HB.out
      have HM := Lib.hid (mem_at hbB hc (hBw_below HBL.out hBw) hx)
      have HX := Lib.hid hx
      have HOKm := Lib.hid (HOK.out m (List.mem_of_getElem? hx))
      have HM0 : Hid (∀ j p W, Below wr.heap.size wr W → ms[j]? = some p → MemAt W b (o + j * 7) p) := fun j p W hW hp => mem_at hbB hc ((hBw_below HBL.out hBw).trans (hW.mono (Nat.le_trans hBw HBL.out.size))) hp
      clear hc hx
      go_wp2_with fail
      obtain ⟨ι, f, n0, hf0, hfb, hfu⟩ := below_class wr
      have HFU := Lib.hid hfu
      have HFB := Lib.hid hfb
      have HMY := Lib.hid (fun n => HM0.out k m (f n) (HFB.out n) HX.out)
      have y0 := fun n => (HMY.out n).c0
      have y1 := fun n => (HMY.out n).c1
      have y2 := fun n => (HMY.out n).c2
      have y3 := fun n => (HMY.out n).c3
      have y4 := fun n => (HMY.out n).c4
      have y5 := fun n => (HMY.out n).c5
      have y6 := fun n => (HMY.out n).c6
      haveI : Nonempty ι := ⟨n0⟩
      clear hfb hfu
      have HRT := Lib.hid (fun W => refEn_any m.nm m.at_ m.fr m.ar m.sz m.su m.me W HOKm.out.1 HOKm.out.2.1 HOKm.out.2.2.1)
      obtain ⟨mb, hmb⟩ : ∃ mb, memB m.nm m.at_ m.fr m.ar m.sz m.me = mb := ⟨_, rfl⟩
      rw [hmb] at HRT
      have HMB : Hid (m.B = mb) := hmb
      clear hmb
      cases mb with
      | false =>
        refine region_quiet_f f n0 hf0 (by kernel_rfl) (by kernel_rfl) ?_
        repeat (go_big_quiet_step ((go_at_call 29; exact quiet_f HFU.out (HRT.out _))))
        refine wpQuiet_nil ?_
        rintro _ ⟨nq, rfl⟩
        have HB1 := Lib.hid (HBL.out.trans ((HFB.out nq).mono HBL.out.size))
        clear HMY y0 y1 y2 y3 y4 y5 y6 HFB HFU hf0
        generalize f nq = w1 at *
        go_wp2
        go_ret
        exact ⟨by rw [allB_bad HX.out HMB.out]; rfl, HB1.out⟩
      | true =>
        by_cases hk0 : k = 0
        · have hkd : decide (0 < k) = false := by simp; omega
          have HK0 := Lib.hid hk0
          clear hk0
          refine region_quiet_f f n0 hf0 (by kernel_rfl) (by kernel_rfl) ?_
          repeat (go_big_quiet_step ((go_at_call 29; exact quiet_f HFU.out (HRT.out _))))
          refine wpQuiet_nil ?_
          rintro _ ⟨nq, rfl⟩
          have HB1 := Lib.hid (HBL.out.trans ((HFB.out nq).mono HBL.out.size))
          clear HMY y0 y1 y2 y3 y4 y5 y6 HFB HFU hf0
          generalize f nq = w1 at *
          go_wp2
          go_roundg (gk - 1)
          case measure => omega
          case rel => exact ⟨k + 1, by omega, by go_num, HB1.out, goodTo_succ HGD.out HX.out HMB.out (fun p h => absurd h (by have := HK0.out; omega))⟩
        · obtain ⟨p, hp⟩ : ∃ p, ms[k - 1]? = some p := ⟨_, List.getElem?_eq_getElem (by have := HL.out; omega)⟩
          have HP := Lib.hid hp
          have HMP := Lib.hid (fun n => (HM0.out (k - 1) p (f n) (HFB.out n) hp).c0)
          obtain ⟨q, hq⟩ : ∃ q, k - 1 = q := ⟨_, rfl⟩
          rw [hq] at HMP
          have x0 := HMP.out
          have hw1 : IntKind.i64.wrap ((k : Int) - 1) = (q : Int) := by rw [IntWalk.i64_in _ (by omega)]; omega
          have hq0 : (0 : Int) ≤ (q : Int) := by omega
          have hq1 : (q : Int) < (l : Int) := by omega
          have hkd : decide ((0 : Int) < (k : Int)) = true := by simp; omega
          obtain ⟨le, hle⟩ : ∃ le, leB m.nm p.nm = le := ⟨_, rfl⟩
          have hle' : (Op.bytesLess m.nm.toList p.nm.toList || m.nm.toList == p.nm.toList) = le := hle
          have HLE := Lib.hid hle
          have hk1 : 0 < k := by omega
          clear hp hle hk0 hq
          refine region_quiet_f f n0 hf0 (by kernel_rfl) (by kernel_rfl) ?_
          repeat (go_big_quiet_step ((go_at_call 29; exact quiet_f HFU.out (HRT.out _))))
          refine wpQuiet_nil ?_
          rintro _ ⟨nq, rfl⟩
          have HB1 := Lib.hid (HBL.out.trans ((HFB.out nq).mono HBL.out.size))
          clear HMY y0 y1 y2 y3 y4 y5 y6 x0 HMP HFB HFU hf0
          generalize f nq = w1 at *
          cases le with
          | true =>
            go_wp2
            go_ret
            exact ⟨by rw [allB_low HX.out hk1 HP.out HLE.out]; rfl, HB1.out⟩
          | false =>
            go_wp2
            go_roundg (gk - 1)
            case measure => omega
            case rel => exact ⟨k + 1, by omega, by go_num, HB1.out, goodTo_succ HGD.out HX.out HMB.out (fun p' _ hp' => by rw [HP.out] at hp'; injection hp' with hp'; subst hp'; exact HLE.out)⟩
    · obtain rfl : k = l := by omega
      have HT : Hid (allB ms = decide ((k : Int) < 201)) := by
        show _ = _
        by_cases h2 : k ≤ 200
        · rw [allB_of (by rw [HL.out]; exact h2) (by rw [HL.out]; exact HGD.out)]; simp; omega
        · rw [allB_long (by rw [HL.out]; omega)]; simp; omega
      go_wp2
      go_ret
      exact ⟨by rw [HT.out]; rfl, HBL.out⟩
end Go.Proofs.YtjoifgeljjgflaaDoor
