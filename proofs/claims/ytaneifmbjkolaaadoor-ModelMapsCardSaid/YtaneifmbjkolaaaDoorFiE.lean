/- Layer 25: model.Same. -/
import Derived.Test.YtaneifmbjkolaaaDoorFiS
namespace Go.Proofs.YtaneifmbjkolaaaDoor
open Go.RowKit

set_option maxHeartbeats 1000000 in
theorem equalB_any (A C : Option Addr) (l c l2 c2 B : Nat) (xs ys : List UInt8) (w : World) (hl : xs.length = l) (hl2 : ys.length = l2) (hb : Bytes w B A xs) (hb2 : Bytes w B C ys) :
    Calls Tryd.prog 24 #[.slice A l c, .slice C l2 c2] w fun e w' => e = .returned (.bool (decide (xs = ys))) ∧ w = w' := by
  have k1 := strF_any w A l c B xs hb hl
  have k2 := strF_any w C l2 c2 B ys hb2 hl2
  obtain ⟨sx, hsx⟩ : ∃ sx, (⟨xs.toArray⟩ : ByteArray) = sx := ⟨_, rfl⟩
  obtain ⟨sy, hsy⟩ : ∃ sy, (⟨ys.toArray⟩ : ByteArray) = sy := ⟨_, rfl⟩
  rw [hsx] at k1
  rw [hsy] at k2
  by_cases hd : xs = ys
  · have hs1 : sx = sy := by rw [← hsx, ← hsy, hd]
    have HD : Hid (decide (xs = ys) = true) := decide_eq_true hd
    subst hs1
    clear hsx hsy hd hb hb2 hl hl2
    go_enter Tryd.func24, Tryd.ntmps24
    go_wp2
    go_ret
    exact ⟨by rw [HD.out]; simp, rfl⟩
  · have hs3 : (sx.toList == sy.toList) = false := by rw [nmEq_dec]; exact decide_eq_false (fun e => hd (ba_inj (by rw [hsx, hsy]; exact e)))
    have hs2 : ¬ sx.toList = sy.toList := by rw [← beq_iff_eq, hs3]; decide
    have HD : Hid (decide (xs = ys) = false) := decide_eq_false hd
    clear hsx hsy hd hb hb2 hl hl2
    go_enter Tryd.func24, Tryd.ntmps24
    go_wp2
    go_ret
    exact ⟨by rw [HD.out]; simp, rfl⟩
def aggF (f : Fi) : Value := .agg #[.string f.nm, .slice f.ad f.data.length f.cp]
set_option maxHeartbeats 1000000 in
theorem same1_any (x y : Fi) (B : Nat) (w : World) (hx : Bytes w B x.ad x.data) (hy : Bytes w B y.ad y.data) (hB : B ≤ w.heap.size) :
    Calls Tryd.prog 23 #[aggF x, aggF y] w fun e w' => e = .returned (.bool (decide (x.key = y.key))) ∧ Below w.heap.size w w' := by
  obtain ⟨W1, hW1⟩ : ∃ W1, w.alloc (.cells #[.string x.nm, .slice x.ad x.data.length x.cp] 25) = W1 := ⟨_, rfl⟩
  obtain ⟨W2, hW2⟩ : ∃ W2, W1.alloc (.cells #[.string y.nm, .slice y.ad y.data.length y.cp] 25) = W2 := ⟨_, rfl⟩
  have hz1 : W1.heap.size = w.heap.size + 1 := by rw [← hW1]; simp
  have hb2 : Below w.heap.size w W2 := by rw [← hW2, ← hW1]; exact ((Below.refl _ w).alloc (Nat.le_refl _) _).alloc (by simp) _
  have hx1 : W2.heap[w.heap.size]? = some (.cells #[.string x.nm, .slice x.ad x.data.length x.cp] 25) := by
    rw [← hW2]
    refine (Below.heap_alloc W1 _ _ (by omega)).trans ?_
    rw [← hW1]
    exact heap_alloc_new w _
  have hx2 : W2.heap[w.heap.size + 1]? = some (.cells #[.string y.nm, .slice y.ad y.data.length y.cp] 25) := by rw [← hW2, ← hz1]; exact heap_alloc_new W1 _
  have c0 : W2.cell? ⟨w.heap.size, 0, none⟩ = some (.string x.nm) := cell_of_row W2 _ 0 _ _ _ hx1
  have c1 : W2.cell? ⟨w.heap.size, 1, none⟩ = some (.slice x.ad x.data.length x.cp) := cell_of_row W2 _ 1 _ _ _ hx1
  have d0 : W2.cell? ⟨w.heap.size + 1, 0, none⟩ = some (.string y.nm) := cell_of_row W2 _ 0 _ _ _ hx2
  have d1 : W2.cell? ⟨w.heap.size + 1, 1, none⟩ = some (.slice y.ad y.data.length y.cp) := cell_of_row W2 _ 1 _ _ _ hx2
  have HB2 := Lib.hid hb2
  have HEQ := Lib.hid (equalB_any x.ad y.ad x.data.length x.cp y.data.length y.cp B x.data y.data W2 rfl rfl (hx.below hb2 hB) (hy.below hb2 hB))
  have hk : decide (x.key = y.key) = (decide (x.nm = y.nm) && decide (x.data = y.data)) := by
    rw [Bool.eq_iff_iff]
    simp [Fi.key]
  rw [hk]
  clear hx hy hx1 hx2 hb2 hk hB
  unfold aggF
  by_cases hn : x.nm = y.nm
  · have hn2 : x.nm.toList = y.nm.toList := by rw [hn]
    have hn3 : (x.nm.toList == y.nm.toList) = true := by rw [hn]; simp
    have HN : Hid (decide (x.nm = y.nm) = true) := decide_eq_true hn
    rw [HN.out]
    clear hn
    go_enter Tryd.func23, Tryd.ntmps23
    go_wp2_with (go_at_call 24; refine HEQ.out.mono ?_; rintro e w3 ⟨rfl, hw3⟩; have HW3 := Lib.hid hw3; clear hw3)
    go_ret
    exact ⟨by simp, by rw [← HW3.out]; exact HB2.out⟩
  · have hn3 : (x.nm.toList == y.nm.toList) = false := by rw [nmEq_dec]; exact decide_eq_false hn
    have hn2 : ¬ x.nm.toList = y.nm.toList := by rw [← beq_iff_eq, hn3]; decide
    have HN : Hid (decide (x.nm = y.nm) = false) := decide_eq_false hn
    rw [HN.out]
    clear hn
    go_enter Tryd.func23, Tryd.ntmps23
    go_wp2
    go_ret
    exact ⟨by simp, HB2.out⟩
set_option maxRecDepth 100000 in
set_option maxHeartbeats 2000000 in
theorem equalF_any (A : Option Addr) (l c : Nat) (C : Option Addr) (l2 c2 : Nat) (fs gs : List Fi) (B : Nat) (w : World) (hl : fs.length = l) (hl2 : gs.length = l2) (hm : l ≤ 1000000) (hb : Files w B A fs) (hb2 : Files w B C gs) (hB : B ≤ w.heap.size) :
    Calls Tryd.prog 22 #[.slice A l c, .slice C l2 c2, .func (.func 23) #[] #[]] w fun e w' => e = .returned (.bool (eqF fs gs)) ∧ Below w.heap.size w w' := by
  by_cases hne : l = l2
  · subst hne
    have HF := Lib.hid hb
    have HG := Lib.hid hb2
    have HL := Lib.hid hl
    have HL2 := Lib.hid hl2
    have HBB := Lib.hid hB
    clear hb hb2 hl hl2 hB
    go_enter Tryd.func22, Tryd.ntmps22
    go_wp2
    go_loopg [17] l (fun gk i wr => ∃ k : Nat, k + gk = l ∧ i = .int .i64 k ∧ Below w.heap.size w wr ∧ (fs.take k).map Fi.key = (gs.take k).map Fi.key)
    case atStart => exact ⟨0, by omega, rfl, Below.refl _ _, rfl⟩
    case round =>
      obtain ⟨k, hk, rfl, hbel, heq⟩ := hrel
      have HE := Lib.hid heq
      have HBL := Lib.hid hbel
      clear heq
      by_cases h : k < l
      · obtain ⟨x, hx⟩ : ∃ x, fs[k]? = some x := ⟨_, List.getElem?_eq_getElem (by have := HL.out; omega)⟩
        obtain ⟨y, hy⟩ : ∃ y, gs[k]? = some y := ⟨_, List.getElem?_eq_getElem (by have := HL2.out; omega)⟩
        obtain ⟨b, o, rfl, _, hc⟩ := (HF.out.below hbel HBB.out).row (by rw [fi_len]; have := HL.out; omega)
        obtain ⟨p0, p1⟩ := fi_at hc hx
        obtain ⟨W1, hW1⟩ : ∃ W1, wr.alloc (.cells #[.string x.nm, .slice x.ad x.data.length x.cp] 25) = W1 := ⟨_, rfl⟩
        have hb1 : Below wr.heap.size wr W1 := by rw [← hW1]; exact (Below.refl _ wr).alloc (Nat.le_refl _) _
        have hz1 : W1.heap.size = wr.heap.size + 1 := by rw [← hW1]; simp
        have hB1 : Below w.heap.size w W1 := hbel.trans (hb1.mono hbel.size)
        obtain ⟨b2, o2, rfl, _, hc2⟩ := (HG.out.below hB1 HBB.out).row (by rw [fi_len]; have := HL2.out; omega)
        obtain ⟨q0, q1⟩ := fi_at hc2 hy
        obtain ⟨W2, hW2⟩ : ∃ W2, W1.alloc (.cells #[.string y.nm, .slice y.ad y.data.length y.cp] 25) = W2 := ⟨_, rfl⟩
        have hb2 : Below W1.heap.size W1 W2 := by rw [← hW2]; exact (Below.refl _ W1).alloc (Nat.le_refl _) _
        have HB2 : Hid (Below w.heap.size w W2) := hB1.trans (hb2.mono hB1.size)
        have hx1 : W1.heap[wr.heap.size]? = some (.cells #[.string x.nm, .slice x.ad x.data.length x.cp] 25) := by rw [← hW1]; exact heap_alloc_new wr _
        have hx2 : W2.heap[wr.heap.size]? = some (.cells #[.string x.nm, .slice x.ad x.data.length x.cp] 25) := (hb2.block _ (by omega)).trans hx1
        have hy2 : W2.heap[W1.heap.size]? = some (.cells #[.string y.nm, .slice y.ad y.data.length y.cp] 25) := by rw [← hW2]; exact heap_alloc_new W1 _
        have c0 : W2.cell? ⟨wr.heap.size, 0, none⟩ = some (.string x.nm) := cell_of_row W2 _ 0 _ _ _ hx2
        have c1 : W2.cell? ⟨wr.heap.size, 1, none⟩ = some (.slice x.ad x.data.length x.cp) := cell_of_row W2 _ 1 _ _ _ hx2
        have d0 : W2.cell? ⟨W1.heap.size, 0, none⟩ = some (.string y.nm) := cell_of_row W2 _ 0 _ _ _ hy2
        have d1 : W2.cell? ⟨W1.heap.size, 1, none⟩ = some (.slice y.ad y.data.length y.cp) := cell_of_row W2 _ 1 _ _ _ hy2
        rw [hz1] at d0 d1
        have HSM := Lib.hid (same1_any x y B W2 (((HF.out.each x (List.mem_of_getElem? hx)).1).below HB2.out HBB.out) (((HG.out.each y (List.mem_of_getElem? hy)).1).below HB2.out HBB.out) (Nat.le_trans HBB.out HB2.out.size))
        have hki : (k : Int) < (l : Int) := by omega
        have hw1 : IntKind.i64.wrap ((k : Int) + 1) = (k : Int) + 1 := IntWalk.i64_in _ (by omega)
        have HXX := Lib.hid hx
        have HYY := Lib.hid hy
        unfold aggF at HSM
        clear hc hc2 hx hy hbel hb1 hb2 hB1 hx1 hx2 hy2
        by_cases hkey : x.key = y.key
        · rw [decide_eq_true hkey] at HSM
          have HNX : Hid (((fs.take (k + 1)).map Fi.key) = ((gs.take (k + 1)).map Fi.key)) := by
            show _ = _
            rw [takeF_snoc HXX.out, takeF_snoc HYY.out, List.map_append, List.map_append, HE.out, List.map_singleton, List.map_singleton, hkey]
          clear hkey
          go_wp2_with (go_at_call 23; refine HSM.out.mono ?_; rintro e w3 ⟨rfl, hb3⟩; have HB3 := Lib.hid (HB2.out.trans (hb3.mono HB2.out.size)); clear hb3)
          go_roundg (gk - 1)
          case measure => omega
          case rel => exact ⟨k + 1, by omega, by go_num, HB3.out, HNX.out⟩
        · rw [decide_eq_false hkey] at HSM
          have HNO : Hid (eqF fs gs = false) := eqF_no HXX.out HYY.out hkey
          clear hkey
          go_wp2_with (go_at_call 23; refine HSM.out.mono ?_; rintro e w3 ⟨rfl, hb3⟩; have HB3 := Lib.hid (HB2.out.trans (hb3.mono HB2.out.size)); clear hb3)
          go_ret
          exact ⟨by rw [HNO.out]; rfl, HB3.out⟩
      · obtain rfl : k = l := by omega
        have HYS : Hid (eqF fs gs = true) := by
          have h1 := HE.out
          rw [List.take_of_length_le (by have := HL.out; omega), List.take_of_length_le (by have := HL2.out; omega)] at h1
          exact decide_eq_true h1
        clear hbel
        go_wp2
        go_ret
        exact ⟨by rw [HYS.out]; rfl, HBL.out⟩
  · have HNO : Hid (eqF fs gs = false) := eqF_len (by rw [hl, hl2]; exact hne)
    have hnei : ¬ ((l : Int) = (l2 : Int)) := by omega
    clear hb hb2
    go_enter Tryd.func22, Tryd.ntmps22
    go_wp2
    go_ret
    exact ⟨by rw [HNO.out]; rfl, Below.refl _ _⟩
set_option maxHeartbeats 1000000 in
theorem same25_any (A : Option Addr) (l c : Nat) (C : Option Addr) (l2 c2 : Nat) (fs gs : List Fi) (B : Nat) (w : World) (hl : fs.length = l) (hl2 : gs.length = l2) (hm : l ≤ 1000000) (hb : Files w B A fs) (hb2 : Files w B C gs) (hB : B ≤ w.heap.size) :
    Calls Tryd.prog 8 #[.slice A l c, .slice C l2 c2] w fun e w' => e = .returned (.bool (eqF fs gs)) ∧ Below w.heap.size w w' := by
  have HE := Lib.hid (equalF_any A l c C l2 c2 fs gs B w hl hl2 hm hb hb2 hB)
  clear hb hb2
  go_enter Tryd.func8, Tryd.ntmps8
  go_wp2_with (go_at_call 22; refine HE.out.mono ?_; rintro e w1 ⟨rfl, hb1⟩; have HB1 := Lib.hid hb1; clear hb1)
  go_ret
  exact ⟨rfl, HB1.out⟩
end Go.Proofs.YtaneifmbjkolaaaDoor
