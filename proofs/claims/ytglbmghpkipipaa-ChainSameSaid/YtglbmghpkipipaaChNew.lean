/- Layer 35: chains in memory: New, Prev. -/
import Derived.Test.YtglbmghpkipipaaChLeaf
import Derived.MakeChecks
import Derived.RegionTactic
namespace Go.Proofs.Ytglbmghpkipipaa
open Go.RowKit

def ic (n : Int) : Value := .int .i64 n
/-- A block of numbers. -/
def IntB (w : World) (t : TypeId) (g : Nat) (vs : List Int) : Prop := w.heap[g]? = some (.cells (vs.map ic).toArray t (0, 0))
theorem ib_cell {w : World} {t : TypeId} {g : Nat} {vs : List Int} {i : Nat} {x : Int} (h : IntB w t g vs) (hx : vs[i]? = some x) : w.cell? ⟨g, i, none⟩ = some (.int .i64 x) := by
  rw [cell_of_row w g i _ _ _ h]
  simp [hx, ic]
theorem ib_free {w : World} {t : TypeId} {g : Nat} {vs : List Int} (h : IntB w t g vs) (i : Nat) : w.frozen? ⟨g, i, none⟩ = false := frozen_of_row w g i _ _ h
theorem ib_set {w : World} {t : TypeId} {g : Nat} {vs : List Int} (h : IntB w t g vs) (i : Nat) (y : Int) : IntB (w.setCell ⟨g, i, none⟩ (.int .i64 y)) t g (vs.set i y) := by
  unfold IntB
  rw [heap_setCell_same w g i _ _ _ h]
  rw [List.setIfInBounds_toArray, List.map_set]
  rfl
theorem ib_other {w : World} {t : TypeId} {g b i : Nat} {vs : List Int} {y : Value} (h : IntB w t g vs) (hb : g ≠ b) : IntB (w.setCell ⟨b, i, none⟩ y) t g vs := (Below.heap_setCell w ⟨b, i, none⟩ y g hb).trans h
theorem intInfoC : (Try.prog.info? 3).map (fun i => (i.zero, i.size, i.bytes)) = some (some (.int .i64 0), 1, 8) := by kernel_rfl
theorem headInfo : (Try.prog.info? 51).map (fun i => (i.zero, i.size)) = some (some (.agg (Array.replicate 4096 (.int .i64 0))), 4096) := by kernel_rfl
theorem make_ints (n : Nat) (hn : n ≤ 1000000) (W : World) :
    (Instr.makeSlice 48 (.int .i64 (n : Int)) (.int .i64 (n : Int))).run Try.prog W = .ok (.slice (some ⟨W.heap.size, 0, none⟩) n n) (W.alloc (.cells (madeCells #[.int .i64 0] n) 3)) := by
  obtain ⟨i0, hi, hz0, hz1, hz2⟩ := info_parts intInfoC
  have h := run_make (P := Try.prog) W 48 3 i0 (.int .i64 0) Try.underlying48 hi hz0 .i64 .i64 n n (by omega) (Int.le_refl _) (by rw [hz2]; omega) (by omega)
  simp only [Int.toNat_natCast, hz1, Nat.mul_one] at h
  exact h
theorem made_ints (w : World) (n : Nat) : IntB (w.alloc (.cells (madeCells #[Value.int .i64 0] n) 3)) 3 w.heap.size (List.replicate n 0) := by
  have e : madeCells #[Value.int .i64 0] n = ((List.replicate n (0 : Int)).map ic).toArray := by
    apply Array.toList_inj.1
    rw [toList_madeCells_one]
    simp [ic]
  unfold IntB
  rw [e]
  exact heap_alloc_new w _

/-- What stands ahead of each place in its chain, the first p places being laid. -/
def behL (bs : List UInt8) (l p : Nat) : List Int := (List.range l).map fun q => if q < p then (back bs (hv bs q) q : Int) else 0
def headL (bs : List UInt8) (p : Nat) : List Int := (List.range 4096).map fun h => (back bs h p : Int)
theorem behL_len (bs : List UInt8) (l p : Nat) : (behL bs l p).length = l := by simp [behL]
theorem headL_len (bs : List UInt8) (p : Nat) : (headL bs p).length = 4096 := by simp [headL]
theorem behL_zero (bs : List UInt8) (l : Nat) : behL bs l 0 = List.replicate l 0 := by
  unfold behL
  apply List.ext_getElem?
  intro i
  simp [List.getElem?_replicate]
  by_cases h : i < l <;> simp [h]
theorem headL_zero (bs : List UInt8) : headL bs 0 = List.replicate 4096 0 := by
  unfold headL
  apply List.ext_getElem?
  intro i
  simp only [List.getElem?_map, List.getElem?_replicate, back]
  by_cases h : i < 4096 <;> simp [h]
theorem headL_get (bs : List UInt8) (p : Nat) {h : Nat} (hh : h < 4096) : (headL bs p)[h]? = some (back bs h p : Int) := by
  unfold headL
  rw [List.getElem?_map, List.getElem?_range hh]
  rfl
theorem behL_get (bs : List UInt8) (l p : Nat) {q : Nat} (hq : q < l) : (behL bs l p)[q]? = some (if q < p then (back bs (hv bs q) q : Int) else 0) := by
  unfold behL
  rw [List.getElem?_map, List.getElem?_range hq]
  rfl
theorem behL_step (bs : List UInt8) (l p : Nat) : (behL bs l p).set p (back bs (hv bs p) p : Int) = behL bs l (p + 1) := by
  apply List.ext_getElem?
  intro i
  rw [List.getElem?_set]
  by_cases hi : i < l
  · by_cases hp : p = i
    · subst hp
      rw [if_pos rfl, if_pos (by rw [behL_len]; exact hi), behL_get bs l (p + 1) hi, if_pos (by omega)]
    · rw [if_neg hp, behL_get bs l p hi, behL_get bs l (p + 1) hi]
      by_cases h : i < p
      · rw [if_pos h, if_pos (by omega)]
      · rw [if_neg h, if_neg (by omega)]
  · have e1 : (behL bs l (p + 1))[i]? = none := List.getElem?_eq_none (by rw [behL_len]; omega)
    have e2 : (behL bs l p)[i]? = none := List.getElem?_eq_none (by rw [behL_len]; omega)
    rw [e1, e2, behL_len]
    split
    · rw [if_neg (by omega)]
    · rfl
theorem headL_step (bs : List UInt8) (p : Nat) : (headL bs p).set (hv bs p) ((p + 1 : Nat) : Int) = headL bs (p + 1) := by
  apply List.ext_getElem?
  intro i
  rw [List.getElem?_set]
  by_cases hi : i < 4096
  · rw [headL_get bs (p + 1) hi, back]
    by_cases hp : hv bs p = i
    · rw [if_pos hp, if_pos hp, if_pos (by rw [headL_len]; omega)]
    · rw [if_neg hp, if_neg hp, headL_get bs p hi]
  · have e1 : (headL bs (p + 1))[i]? = none := List.getElem?_eq_none (by rw [headL_len]; omega)
    have e2 : (headL bs p)[i]? = none := List.getElem?_eq_none (by rw [headL_len]; omega)
    rw [e1, e2, headL_len]
    split
    · rw [if_neg (by omega)]
    · rfl

/-- Chains in memory. -/
def LCh (w : World) (g g0 : Nat) (A : Option Addr) (l c : Nat) (bs : List UInt8) : Prop :=
  w.heap[g]? = some (.cells #[.slice A l c, .slice (some ⟨g0, 0, none⟩) l l] 50) ∧ IntB w 3 g0 (behL bs l (l - 2))
theorem LCh.drewN {w : World} {g g0 : Nat} {A : Option Addr} {l c : Nat} {bs : List UInt8} (h : LCh w g g0 A l c bs) (n : Nat) : LCh (w.drewN n) g g0 A l c bs := h
theorem LCh.below {w w' : World} {g g0 : Nat} {A : Option Addr} {l c : Nat} {bs : List UInt8} (h : LCh w g g0 A l c bs) (hb : Below w.heap.size w w') : LCh w' g g0 A l c bs :=
  ⟨(hb.block g (Array.getElem?_eq_some_iff.1 h.1).1).trans h.1, (hb.block g0 (Array.getElem?_eq_some_iff.1 h.2).1).trans h.2⟩

def begC (l : Nat) (a : Int) : Bool := decide (0 ≤ a) && decide (a ≤ (l : Int) - 3)
theorem begC_yes {l : Nat} {a : Int} (h : begC l a = true) : 0 ≤ a ∧ a + 3 ≤ (l : Int) := by
  unfold begC at h
  rw [Bool.and_eq_true, decide_eq_true_eq, decide_eq_true_eq] at h
  omega
theorem begC_false {l : Nat} {a : Int} (h : begC l a = false) : ¬ (0 ≤ a ∧ a + 3 ≤ (l : Int)) := by
  unfold begC at h
  rw [Bool.and_eq_false_iff, decide_eq_false_iff_not, decide_eq_false_iff_not] at h
  omega
theorem begC_true {l : Nat} {a : Int} (h : 0 ≤ a ∧ a + 3 ≤ (l : Int)) : begC l a = true := by
  unfold begC
  rw [Bool.and_eq_true, decide_eq_true_eq, decide_eq_true_eq]
  omega
set_option maxHeartbeats 400000 in
theorem hashed_any (g l c : Nat) (A : Option Addr) (v : Value) (a : Int) (w : World) (hm : l ≤ 1099511627776) (h : w.heap[g]? = some (.cells #[.slice A l c, v] 50)) :
    Calls Try.prog 20 #[.pointer (some ⟨g, 0, none⟩), .int .i64 a] w fun e w' => e = .returned (.bool (begC l a)) ∧ w = w' := by
  have c0 := cell_of_row w g 0 _ _ _ h
  clear h
  by_cases h0 : 0 ≤ a
  · have HB : Hid (begC l a = decide (a ≤ (l : Int) - 3)) := by show _ = _; rw [begC, decide_eq_true h0, Bool.true_and]
    have hd : decide (0 ≤ a) = true := decide_eq_true h0
    clear h0
    go_enter Try.func20, Try.ntmps20
    go_wp2
    go_ret
    exact ⟨by rw [HB.out]; rfl, rfl⟩
  · have HB : Hid (begC l a = false) := by show _ = _; rw [begC, decide_eq_false h0, Bool.false_and]
    have hd : decide (0 ≤ a) = false := decide_eq_false h0
    clear h0
    go_enter Try.func20, Try.ntmps20
    go_wp2
    go_ret
    exact ⟨by rw [HB.out]; rfl, rfl⟩
set_option maxHeartbeats 400000 in
theorem prev_nil (a : Int) (w : World) :
    Calls Try.prog 17 #[.pointer none, .int .i64 a] w fun e w' => e = .returned (.tuple #[.int .i64 0, .bool false]) ∧ w = w' := by
  have HN : Hid (Calls Try.prog 20 #[.pointer none, .int .i64 a] w fun e w' => e = .returned (.bool false) ∧ w = w') := by
    show Calls _ _ _ _ _
    go_enter Try.func20, Try.ntmps20
    go_wp2
    go_ret
    exact ⟨rfl, rfl⟩
  go_enter Try.func17, Try.ntmps17
  go_wp2_with (go_at_call 20; refine HN.out.mono ?_; rintro e w' ⟨rfl, rfl⟩)
  go_ret2
  exact ⟨rfl, rfl⟩
set_option maxHeartbeats 1000000 in
theorem prev_any (g g0 l c : Nat) (A : Option Addr) (bs : List UInt8) (a : Int) (w : World) (hl : bs.length = l) (hm : l ≤ 1000000) (h : LCh w g g0 A l c bs) :
    Calls Try.prog 17 #[.pointer (some ⟨g, 0, none⟩), .int .i64 a] w fun e w' => e = .returned (.tuple #[.int .i64 (prevI bs a - 1 : Nat), .bool (decide (0 < prevI bs a))]) ∧ w = w' := by
  have HHA := Lib.hid (hashed_any g l c A _ a w (by omega) h.1)
  have c1 := cell_of_row w g 1 _ _ _ h.1
  cases hbg : begC l a with
  | false =>
    have HP : Hid (prevI bs a = 0) := prevI_no (by rw [hl]; exact begC_false hbg)
    rw [hbg] at HHA
    clear h hbg
    go_enter Try.func17, Try.ntmps17
    go_wp2_with (go_at_call 20; refine HHA.out.mono ?_; rintro e w' ⟨rfl, rfl⟩)
    go_ret2
    exact ⟨by rw [HP.out]; rfl, rfl⟩
  | true =>
    rw [hbg] at HHA
    obtain ⟨b0, b1⟩ := begC_yes hbg
    obtain ⟨n, rfl⟩ := Int.eq_ofNat_of_zero_le b0
    obtain ⟨p, hp⟩ : ∃ p, prevI bs (n : Int) = p := ⟨_, rfl⟩
    have c2 : w.cell? ⟨g0, n, none⟩ = some (.int .i64 (p : Int)) := by
      refine ib_cell h.2 ?_
      rw [behL_get bs l (l - 2) (by omega), if_pos (by omega), ← hp, prevI_at (by omega)]
    have hpl : p ≤ n := by
      have := back_le bs (hv bs n) n
      rw [prevI_at (by omega)] at hp
      omega
    have hn : n < l := by omega
    rw [hp]
    clear h hbg hp
    by_cases h0 : p = 0
    · subst h0
      go_enter Try.func17, Try.ntmps17
      go_wp2_with (go_at_call 20; refine HHA.out.mono ?_; rintro e w' ⟨rfl, rfl⟩)
      go_ret2
      exact ⟨rfl, rfl⟩
    · obtain ⟨q, rfl⟩ : ∃ q, p = q + 1 := ⟨p - 1, by omega⟩
      have t0 : (((q + 1 : Nat) : Int) == 0) = false := by simp; omega
      have t1 : ((q : Int) + 1 == 0) = false := by simp; omega
      have t2 : (q : Int) + 1 - 1 = (q : Int) := by omega
      clear h0
      go_enter Try.func17, Try.ntmps17
      go_wp2_with (go_at_call 20; refine HHA.out.mono ?_; rintro e w' ⟨rfl, rfl⟩)
      go_ret2
      exact ⟨by simp, rfl⟩
end Go.Proofs.Ytglbmghpkipipaa
