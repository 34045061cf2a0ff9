/- Layer 7: the rows, as their iterator tells them. -/
import Derived.Test.YtgbbdgoleiolhaaGreatMgBlockPuts32
import Derived.Test.YtgbbdgoleiolhaaGreatMgBlockPuts20
import Derived.RangeFuncBox
import Derived.Test.YtgbbdgoleiolhaaGreatMgBlockPuts04
namespace Go.Proofs.YtgbbdgoleiolhaaGreat
open Go.RowKit Go.Shelf
attribute [local go_sem] Oper.semAt_some

/-- A box that holds a slice of elements. -/
def SlB (W : World) (B : Nat) : Prop := ∃ A n c, Boxed W B 144 (.slice A n c)
/-- What a round keeps that sets the slice in a box. -/
structure KpO (n B : Nat) (W W' : World) : Prop where
  low : Below n W W'
  cells : ∀ k o, W.heap[k]? = some o → o.isCells = true → k ≠ B → W'.heap[k]? = some o
  box : SlB W B → SlB W' B
  size : W.heap.size ≤ W'.heap.size
theorem KpO.trans {n B : Nat} {X Y Z : World} (h : KpO n B X Y) (k : KpO n B Y Z) : KpO n B X Z :=
  ⟨h.low.trans k.low, fun j o hj ho hB => k.cells j o (h.cells j o hj ho hB) ho hB, fun hb => k.box (h.box hb), Nat.le_trans h.size k.size⟩
theorem KpO.putObj {n B : Nat} (W : World) (l : Nat) (o o' : Obj) (hn : n ≤ l) (hB : B < l) (ho : W.heap[l]? = some o) (hc : o.isCells = false) : KpO n B W (W.putObj l o') := by
  refine ⟨(Below.refl n W).grown (grownBy_putObj' W l o') (by have := (Array.getElem?_eq_some_iff.1 ho).1; omega) (fun k e => by cases e; omega), fun k p hk hp _ => ?_, fun ⟨A, m, c, hb⟩ => ⟨A, m, c, (World.putObj_heap_other (by omega)).trans hb⟩, (grownBy_putObj' W l o').size⟩
  by_cases h : k = l
  · rw [h, ho] at hk; cases hk; rw [hc] at hp; cases hp
  · exact (World.putObj_heap_other h).trans hk
theorem at_apart {W : World} {B b o wt s : Nat} {p q : Option Addr} (h : SlB W B) (ha : At W b o (elC wt s p q)) : b ≠ B := by
  rintro rfl
  obtain ⟨A, n, c, hb⟩ := h
  have h0 := ha 0 _ rfl
  rw [Nat.add_zero, cell_of_row W b o _ _ _ hb] at h0
  cases o with
  | zero => simp at h0
  | succ o => simp at h0
theorem at_cells {W : World} {b o wt s : Nat} {p q : Option Addr} (ha : At W b o (elC wt s p q)) : ∃ ob, W.heap[b]? = some ob ∧ ob.isCells = true := by
  obtain ⟨c, e, fr, h, _⟩ := Go.Sort.cells_of_cell? (ha 0 _ rfl)
  exact ⟨_, h, rfl⟩
theorem RowL.kpo {n B : Nat} {W W' : World} {k m c : Nat} {A : Option Addr} {xs : List WE} {cs : List Value} (h : RowL W k A m c xs cs) (hk : KpO n B W W') (hb : SlB W B) : RowL W' k A m c xs cs :=
  h.keep hk.size fun b o wt s p q ha => by
    obtain ⟨ob, h1, h2⟩ := at_cells ha
    rw [h1]
    exact hk.cells b ob h1 h2 (at_apart hb ha)
theorem abidesNone {α : Type} {B : Nat} {J : List α → World → Prop} (h : AbidesS B (fun _ => False) J) {s : List α} {W W' : World} (hj : J s W) (hb : Below W.heap.size W W') : J s W' :=
  h s W W' none hj ⟨hb.os, hb.tape, hb.output, hb.size, fun k hk _ => hb.block k hk⟩ (fun r e => by cases e)
/-- A row as it is told: which one it is, where it lies, its cells. -/
structure RwV where
  k : Nat
  A : Option Addr
  n : Nat
  c : Nat
  cs : List Value
def rwE (x : RwV) : Array Value := #[.slice x.A x.n x.c]
def rwX (first : List WE) (x : RwV) (W : World) : Prop := RowL W x.k x.A x.n x.c (rowW first x.k) x.cs
theorem rows_any (A : Option Addr) (l c : Nat) (w : World) :
    Calls Tryz.prog 77 #[.slice A l c] w fun e w' => e = .returned (.func (.func 107) #[] #[.pointer (some ⟨w.heap.size, 0, none⟩)]) ∧ w.alloc (.cells #[.slice A l c] 144) = w' := by
  go_enter Tryz.func77, Tryz.ntmps77
  go_wp2
  go_ret
  exact ⟨rfl, rfl⟩
set_option maxRecDepth 100000 in
set_option maxHeartbeats 1000000 in
theorem rows_seq (n B bx : Nat) (A : Option Addr) (l c : Nat) (first : List WE) (cs : List Value) (w0 : World) (hm : l ≤ 320) (hbd : ∀ x ∈ first, x.1 ≤ 1073741824) (hr : RowL w0 0 A l c first cs) (hn : n ≤ w0.heap.size) (hxB : bx ≠ B)
    (hx : Boxed w0 bx 144 (.slice A l c)) (hB : SlB w0 B) :
    SeqR Fence.wide 5 Tryz.prog 107 #[.pointer (some ⟨bx, 0, none⟩)] rwE (KpO n B) (fun _ => False) (fun xs => xs.map (·.k) = List.range 15) (fun _ => True) (rwX first) (fun _ _ => True) 16 w0 := by
  intro gy J Jx W hbl hJ hJx hY h0
  have HRW : Hid (RowL W 0 A l c first cs) := hr.below hbl
  have HXW : Hid (Boxed W bx 144 (.slice A l c)) := (hbl.block bx hx.lt).trans hx
  have HBW : Hid (SlB W B) := by obtain ⟨A', n', c', hb⟩ := hB; exact ⟨A', n', c', (hbl.block B hb.lt).trans hb⟩
  have HNZ : Hid (n ≤ W.heap.size) := Nat.le_trans hn hbl.size
  have HY := Lib.hid hY
  have HJ := Lib.hid hJ
  have HBD := Lib.hid hbd
  have hx0 : W.cell? ⟨bx, 0, none⟩ = some (.slice A l c) := HXW.out.cell
  clear hx hr hB hn hbl hY hJ hbd
  refine callsIn_of_wp Tryz.func107 rfl trivial ?_ rfl
  simp only [Tryz.ntmps107, List.size_toArray, List.length_cons, List.length_nil, Nat.reduceAdd, Nat.reduceSub, Array.replicate_succ, Array.replicate_zero, List.push_toArray, List.append_toArray, List.nil_append, List.cons_append]
  gi_wp2
  gi_loopw [3, 5] (fun row i wr => ∃ (k : Nat) (pre : List RwV) (A1 : Option Addr) (n1 c1 : Nat) (cs1 : List Value), i = .int .i64 (k : Int) ∧ k ≤ 14 ∧ row = .slice A1 n1 c1 ∧ RowL wr k A1 n1 c1 (rowW first k) cs1 ∧ RowL wr 0 A l c first cs ∧
    Boxed wr bx 144 (.slice A l c) ∧ SlB wr B ∧ n ≤ wr.heap.size ∧ pre.map (·.k) = List.range k ∧ J pre wr) (fun _ i _ => 14 - (intOf i).toNat)
  case atStart => exact ⟨0, [], A, l, c, cs, rfl, by omega, rfl, HRW.out, HRW.out, HXW.out, HBW.out, HNZ.out, rfl, h0⟩
  case round =>
    obtain ⟨k, pre, A1, n1, c1, cs1, rfl, hk, rfl, hrow, hfst, hbx, hslb, hnz, hpre, hj⟩ := hrel
    have hpl : pre.length = k := by have := congrArg List.length hpre; simpa using this
    obtain ⟨fn, tmps, assign, body, hy, hR⟩ := HY.out pre ⟨k, A1, n1, c1, cs1⟩ wr hj hrow (by omega)
    simp only [rwE] at hy
    have HR := Lib.hid hR
    have HROW := Lib.hid hrow
    have HFST := Lib.hid hfst
    have HBX := Lib.hid hbx
    have HSLB := Lib.hid hslb
    have HNW := Lib.hid hnz
    have HPRE := Lib.hid hpre
    have HLEN : Hid (n1 ≤ 640) := by
      show _ ≤ _
      rw [← hrow.len]
      have := rowW_len first k
      have := hfst.len
      omega
    have HWT : Hid (∀ x ∈ rowW first k, x.1 ≤ 1125899906842624) := fun x hx => by
      have h1 := rowW_bd HBD.out k x hx
      have h2 : 2 ^ k ≤ 2 ^ 14 := Nat.pow_le_pow_right (by omega) hk
      have h3 := Nat.mul_le_mul_right 1073741824 h2
      omega
    clear hR hrow hfst hbx hslb hnz hpre hj hx0
    by_cases hk14 : k < 14
    · gi_wp2_with fail
      refine HR.out.mono ?_
      rintro ee W3 (⟨rfl, hJ3, hk3⟩ | ⟨rfl, hJx3⟩)
      · have HR3 := Lib.hid (HROW.out.kpo hk3 HSLB.out)
        have HF3 := Lib.hid (HFST.out.kpo hk3 HSLB.out)
        have HX3 : Hid (Boxed W3 bx 144 (.slice A l c)) := hk3.cells bx _ HBX.out rfl hxB
        have HS3 := Lib.hid (hk3.box HSLB.out)
        have HN3 : Hid (n ≤ W3.heap.size) := Nat.le_trans HNW.out hk3.size
        have HJ3 := Lib.hid hJ3
        have x3 : W3.drew.cell? ⟨bx, 0, none⟩ = some (.slice A l c) := HX3.out.cell
        have HPA := Lib.hid (pairs_row A1 n1 c1 (rowW first k) cs1 k W3.drew (HR3.out.below ((Below.refl W3.heap.size W3).drew)) (by have := HLEN.out; omega) HWT.out)
        clear hJ3 hk3
        gi_wp2_with fail
        gi_region_with (first
          | (refine ⟨trivial, ?_⟩; gi_at_call 109; refine (callsIn_wide.2 HPA.out).mono ?_; rintro e w4 ⟨A4, n4, c4, cs4, rfl, hn4, hr4, hb4⟩; have HN4 := Lib.hid hn4; have HR4 := Lib.hid hr4; have HB4 : Hid (Below W3.heap.size W3 w4) := (((Below.refl W3.heap.size W3).drew).trans hb4); have x4 : w4.cell? ⟨bx, 0, none⟩ = some (.slice A l c) := (HB4.out.cell (p := ⟨bx, 0, none⟩) HX3.out.lt).trans HX3.out.cell; clear hn4 hr4 hb4)
          | (refine ⟨trivial, ?_⟩; gi_at_call 108; refine (callsIn_wide.2 (merge_row A A4 l c n4 c4 first (prW (rowW first k)) cs cs4 (k + 1) w4 ((HF3.out.below HB4.out).ups _) HR4.out (by omega) HN4.out)).mono ?_; rintro e w5 ⟨A5, n5, c5, cs5, rfl, hr5, hb5⟩; have HR5 := Lib.hid hr5; have HB5 : Hid (Below W3.heap.size W3 w5) := HB4.out.trans (hb5.mono HB4.out.size); clear hr5 hb5))
        all_goals
          gi_wp2_with fail
          have hb5 := HB5.out
          refine ⟨⟨k + 1, pre ++ [⟨k, A1, n1, c1, cs1⟩], A5, n5, c5, cs5, by go_num, by omega, rfl, HR5.out, HF3.out.below hb5, (hb5.block bx HX3.out.lt).trans HX3.out, ?_, Nat.le_trans HN3.out hb5.size, ?_, abidesNone HJ.out HJ3.out hb5⟩, ?_⟩
          · obtain ⟨A', n', c', hb⟩ := HS3.out
            exact ⟨A', n', c', (hb5.block B hb.lt).trans hb⟩
          · rw [List.map_append, HPRE.out, List.range_succ]
            rfl
          · simp [intOf]
            omega
      · gi_wp2
        refine bodyPost_ret (results_none rfl _ _ _) rfl ?_
        exact ⟨⟨_, rfl⟩, .inr ⟨_, trivial, hJx3⟩⟩
    · obtain rfl : k = 14 := by omega
      gi_wp2_with fail
      refine HR.out.mono ?_
      rintro ee W3 (⟨rfl, hJ3, hk3⟩ | ⟨rfl, hJx3⟩)
      · gi_wp2
        refine bodyPost_end (results_none rfl _ _ _) rfl ?_
        exact ⟨⟨_, rfl⟩, .inl ⟨_, by rw [List.map_append, HPRE.out]; rfl, hJ3, trivial⟩⟩
      · gi_wp2
        refine bodyPost_end (results_none rfl _ _ _) rfl ?_
        exact ⟨⟨_, rfl⟩, .inr ⟨_, trivial, hJx3⟩⟩
end Go.Proofs.YtgbbdgoleiolhaaGreat
/- Layer 7: Lengths. -/
namespace Go.Proofs.YtgbbdgoleiolhaaGreat
open Go.RowKit Go.Shelf
attribute [local go_sem] Oper.semAt_some

def wB (n : Int) : Bool := decide (0 ≤ n) && decide (n ≤ 1073741824)
theorem wB_yes {n : Int} (h : wB n = true) : 0 ≤ n ∧ n ≤ 1073741824 := by simpa [wB] using h
set_option maxHeartbeats 400000 in
theorem rweight_any (n : Int) (w : World) : Calls Tryz.prog 75 #[.int .i64 n] w fun e w' => e = .returned (.bool (wB n)) ∧ w = w' := by
  by_cases h1 : 0 ≤ n
  · by_cases h2 : n ≤ 1073741824
    · have HD : Hid (wB n = true) := by show _ = _; simp [wB, h1, h2]
      go_enter Tryz.func75, Tryz.ntmps75
      go_wp2
      go_ret
      exact ⟨by rw [HD.out]; rfl, rfl⟩
    · have HD : Hid (wB n = false) := by show _ = _; simp [wB, h2]
      have h2' : decide (n ≤ 1073741824) = false := by simpa using h2
      clear h2
      go_enter Tryz.func75, Tryz.ntmps75
      go_wp2
      go_ret
      exact ⟨by rw [HD.out]; rfl, rfl⟩
  · have HD : Hid (wB n = false) := by show _ = _; simp [wB, h1]
    go_enter Tryz.func75, Tryz.ntmps75
    go_wp2
    go_ret
    exact ⟨by rw [HD.out]; rfl, rfl⟩
def zCs (zs : List Int) : List Value := zs.map (Value.int .i64)
theorem zCs_at {zs : List Int} {k : Nat} {n : Int} (h : zs[k]? = some n) : (zCs zs)[k]? = some (.int .i64 n) := by simp [zCs, h]
theorem zCs_len (zs : List Int) : (zCs zs).length = zs.length := by simp [zCs]
set_option maxHeartbeats 1000000 in
theorem lengths_size (A : Option Addr) (l c : Nat) (w : World) (hl : 320 < l) (hm : l ≤ 9223372036854775807) :
    Calls Tryz.prog 46 #[.slice A l c] w fun e w' => e = .returned (.tuple #[.slice none 0 0, .int .i64 5]) ∧ w = w' := by
  have hd : decide ((320 : Int) < (l : Int)) = true := by simp; omega
  clear hl
  go_enter Tryz.func46, Tryz.ntmps46
  go_wp2
  go_ret2
  exact ⟨rfl, rfl⟩
set_option maxRecDepth 100000 in
set_option maxHeartbeats 1000000 in
theorem lengths_arg (A : Option Addr) (l c : Nat) (zs : List Int) (B : Nat) (w : World) (hz : zs.length = l) (hl : l ≤ 320) (hb : Cells w B A (zCs zs)) (hbad : zs.all wB = false) :
    Calls Tryz.prog 46 #[.slice A l c] w fun e w' => e = .returned (.tuple #[.slice none 0 0, .int .i64 1]) ∧ w = w' := by
  have HC := Lib.hid hb
  have HL := Lib.hid hz
  have HBAD := Lib.hid hbad
  have hd : decide ((320 : Int) < (l : Int)) = false := by simp; omega
  clear hb hz hbad
  go_enter Tryz.func46, Tryz.ntmps46
  go_wp2
  go_loopg [17] l (fun gk i wr => ∃ k : Nat, k + gk = l ∧ i = .int .i64 k ∧ wr = w ∧ (zs.take k).all wB = true)
  case atStart => exact ⟨0, by omega, rfl, rfl, rfl⟩
  case round =>
    obtain ⟨k, hk, rfl, rfl, hall⟩ := hrel
    have HALL := Lib.hid hall
    clear hall
    by_cases h : k < l
    · obtain ⟨x, hx⟩ : ∃ x, zs[k]? = some x := ⟨_, List.getElem?_eq_getElem (by have := HL.out; omega)⟩
      obtain ⟨b, o, rfl, hbB, hc⟩ := HC.out (by rw [zCs_len, HL.out]; omega)
      have c0 : wr.cell? ⟨b, o + k, none⟩ = some (.int .i64 x) := hc k _ (zCs_at hx)
      have HT : Hid (zs.take (k + 1) = zs.take k ++ [x]) := by show _ = _; rw [List.take_add_one, hx]; rfl
      obtain ⟨q, hq⟩ : ∃ q, wB x = q := ⟨_, rfl⟩
      have HQ := Lib.hid hq
      have HR := Lib.hid (rweight_any x wr)
      rw [hq] at HR
      clear hc hx hq
      cases q with
      | true =>
        go_wp2_with (go_at_call 75; refine HR.out.mono ?_; rintro e w' ⟨rfl, rfl⟩)
        go_roundg (gk - 1)
        case measure => omega
        case rel => exact ⟨k + 1, by omega, by go_num, rfl, by rw [HT.out, List.all_append, HALL.out]; simp [HQ.out]⟩
      | false =>
        go_wp2_with (go_at_call 75; refine HR.out.mono ?_; rintro e w' ⟨rfl, rfl⟩)
        go_ret2
        exact ⟨rfl, rfl⟩
    · obtain rfl : k = l := by omega
      rw [List.take_of_length_le (by have := HL.out; omega)] at HALL
      have h1 := HALL.out
      rw [HBAD.out] at h1
      cases h1
end Go.Proofs.YtgbbdgoleiolhaaGreat
/- Layer 7: Lengths of weights of which none, or one alone, weighs something. -/
namespace Go.Proofs.YtgbbdgoleiolhaaGreat
open Go.RowKit Go.Shelf

/-- The lengths of weights. -/
def lensW (ns : List Nat) : List Nat := match itemsW ns with
  | [] => List.replicate ns.length 0
  | [x] => (List.replicate ns.length 0).set x.2 1
  | its => incW (List.replicate ns.length 0) (symsW its)
theorem lensW_none {ns : List Nat} (h : itemsW ns = []) : lensW ns = List.replicate ns.length 0 := by rw [lensW, h]
theorem lensW_one {ns : List Nat} {x : Nat × Nat} (h : itemsW ns = [x]) : lensW ns = (List.replicate ns.length 0).set x.2 1 := by rw [lensW, h]
theorem lensW_many {ns : List Nat} (h : 2 ≤ (itemsW ns).length) : lensW ns = incW (List.replicate ns.length 0) (symsW (itemsW ns)) := by
  rw [lensW]
  split
  · rename_i e; rw [e] at h; simp at h
  · rename_i e; rw [e] at h; simp at h
  · rfl
theorem lensW_len (ns : List Nat) : (lensW ns).length = ns.length := by
  rw [lensW]
  split
  · simp
  · simp
  · rw [incW_len]; simp
theorem itP_mem {ns : List Nat} : ∀ {k : Nat} {x : Nat × Nat}, x ∈ itP ns k → ns[x.2]? = some x.1 ∧ 0 < x.1 ∧ x.2 < k
  | 0, x, h => by simp [itP] at h
  | k + 1, x, h => by
    rw [itP] at h
    split at h
    · rename_i y hy
      split at h
      · rename_i hp
        rcases List.mem_append.1 h with h | h
        · obtain ⟨h1, h2, h3⟩ := itP_mem h
          exact ⟨h1, h2, by omega⟩
        · rw [List.mem_singleton.1 h]
          exact ⟨hy, hp, by show k < _; omega⟩
      · obtain ⟨h1, h2, h3⟩ := itP_mem h
        exact ⟨h1, h2, by omega⟩
    · obtain ⟨h1, h2, h3⟩ := itP_mem h
      exact ⟨h1, h2, by omega⟩
theorem itemsW_mem {ns : List Nat} {x : Nat × Nat} (h : x ∈ itemsW ns) : ns[x.2]? = some x.1 ∧ 0 < x.1 ∧ x.2 < ns.length := itP_mem ((sortW_perm _).mem_iff.1 h)
theorem itemsW_len (ns : List Nat) : (itemsW ns).length ≤ ns.length := by
  rw [itemsW, (sortW_perm _).length_eq]
  exact itP_len _ _
set_option maxRecDepth 100000 in
set_option maxHeartbeats 1000000 in
theorem lengths_none (A : Option Addr) (l c : Nat) (ns : List Nat) (B : Nat) (w : World) (hz : ns.length = l) (hl : l ≤ 320) (hb : Cells w B A (nCs ns)) (hB : B ≤ w.heap.size) (hok : ∀ n ∈ ns, n ≤ 1073741824) (hn : itemsW ns = []) :
    Calls Tryz.prog 46 #[.slice A l c] w fun e w' => ∃ A' c', e = .returned (.tuple #[.slice A' l c', .int .i64 0]) ∧ w'.ownsRow w.heap.size 3 1 (.slice A' l c') l (nCs (lensW ns)) ∧ Below w.heap.size w w' := by
  have HC := Lib.hid hb
  have HL := Lib.hid hz
  have HOK := Lib.hid hok
  have HB := Lib.hid hB
  have HN := Lib.hid hn
  have hd : decide ((320 : Int) < (l : Int)) = false := by simp; omega
  clear hb hz hok hB hn
  go_enter Tryz.func46, Tryz.ntmps46
  go_wp2
  go_loopg [17] l (fun gk i wr => ∃ k : Nat, k + gk = l ∧ i = .int .i64 k ∧ wr = w)
  case atStart => exact ⟨0, by omega, rfl, rfl⟩
  case round =>
    obtain ⟨k, hk, rfl, rfl⟩ := hrel
    by_cases h : k < l
    · obtain ⟨x, hx⟩ : ∃ x, ns[k]? = some x := ⟨_, List.getElem?_eq_getElem (by have := HL.out; omega)⟩
      obtain ⟨b, o, rfl, hbB, hc⟩ := HC.out (by rw [nCs_len, HL.out]; omega)
      have c0 : wr.cell? ⟨b, o + k, none⟩ = some (.int .i64 (x : Int)) := hc k _ (nCs_at hx)
      have hxo := HOK.out x (List.mem_of_getElem? hx)
      have hq : wB (x : Int) = true := by simp [wB]; omega
      have HR := Lib.hid (rweight_any (x : Int) wr)
      rw [hq] at HR
      clear hc hx hq
      go_wp2_with (go_at_call 75; refine HR.out.mono ?_; rintro e w' ⟨rfl, rfl⟩)
      go_roundg (gk - 1)
      case measure => omega
      case rel => exact ⟨k + 1, by omega, by go_num, rfl⟩
    · obtain rfl : k = l := by omega
      have HI := Lib.hid (fun W (hW : Below wr.heap.size wr W) => items_any A k c ns B W HL.out (by omega) (Nat.le_trans HB.out hW.size) (HC.out.below hW HB.out))
      obtain ⟨w1, hw1⟩ : ∃ w1, wr.alloc (.cells (madeCells #[.int .i64 0] k) 3) = w1 := ⟨_, rfl⟩
      have hmk : (Instr.makeSlice 53 (.int .i64 (k : Int)) (.int .i64 (k : Int))).run Tryz.prog wr = .ok (.slice (some ⟨wr.heap.size, 0, none⟩) k k) w1 := by rw [← hw1]; exact wei_make k (by omega) wr
      have HN1 : Hid (NB w1 wr.heap.size (List.replicate k 0)) := by show NB _ _ _; rw [← hw1]; exact wei_made wr k
      have HB1 : Hid (Below wr.heap.size wr w1) := by show Below _ _ _; rw [← hw1]; exact (Below.refl _ _).alloc (Nat.le_refl _) _
      have HZ1 : Hid (w1.heap.size = wr.heap.size + 1) := by show _ = _; rw [← hw1]; simp
      clear hw1
      go_wp2_with (go_at_call 76; refine (HI.out w1 HB1.out).mono ?_; rintro e w2 ⟨A7, n7, c7, rfl, hn7, ho7, hb7⟩; (obtain rfl : n7 = 0 := by rw [hn7, HN.out]; rfl); have HB7 := Lib.hid hb7; clear hn7 ho7 hb7)
      go_ret2
      have h2 : NB w2 wr.heap.size (List.replicate k 0) := HN1.out.below HB7.out (by rw [HZ1.out]; omega)
      have h3 := h2.own (Nat.le_refl _) (by unfold maxLen; simp; omega)
      simp only [List.length_replicate] at h3
      exact ⟨_, k, rfl, by rw [lensW_none HN.out, HL.out]; exact h3, HB1.out.trans (HB7.out.mono (by rw [HZ1.out]; omega))⟩
set_option maxRecDepth 100000 in
set_option maxHeartbeats 1000000 in
theorem lengths_one (A : Option Addr) (l c : Nat) (ns : List Nat) (B : Nat) (w : World) (x0 s0 : Nat) (hz : ns.length = l) (hl : l ≤ 320) (hb : Cells w B A (nCs ns)) (hB : B ≤ w.heap.size) (hok : ∀ n ∈ ns, n ≤ 1073741824) (hn : itemsW ns = [(x0, s0)]) :
    Calls Tryz.prog 46 #[.slice A l c] w fun e w' => ∃ A' c', e = .returned (.tuple #[.slice A' l c', .int .i64 0]) ∧ w'.ownsRow w.heap.size 3 1 (.slice A' l c') l (nCs (lensW ns)) ∧ Below w.heap.size w w' := by
  have HC := Lib.hid hb
  have HL := Lib.hid hz
  have HOK := Lib.hid hok
  have HB := Lib.hid hB
  have HN := Lib.hid hn
  have hs0 : s0 < l := by
    have := (itemsW_mem (ns := ns) (x := (x0, s0)) (by rw [hn]; simp)).2.2
    rw [hz] at this
    exact this
  have hd : decide ((320 : Int) < (l : Int)) = false := by simp; omega
  clear hb hz hok hB hn
  go_enter Tryz.func46, Tryz.ntmps46
  go_wp2
  go_loopg [17] l (fun gk i wr => ∃ k : Nat, k + gk = l ∧ i = .int .i64 k ∧ wr = w)
  case atStart => exact ⟨0, by omega, rfl, rfl⟩
  case round =>
    obtain ⟨k, hk, rfl, rfl⟩ := hrel
    by_cases h : k < l
    · obtain ⟨x, hx⟩ : ∃ x, ns[k]? = some x := ⟨_, List.getElem?_eq_getElem (by have := HL.out; omega)⟩
      obtain ⟨b, o, rfl, hbB, hc⟩ := HC.out (by rw [nCs_len, HL.out]; omega)
      have c0 : wr.cell? ⟨b, o + k, none⟩ = some (.int .i64 (x : Int)) := hc k _ (nCs_at hx)
      have hxo := HOK.out x (List.mem_of_getElem? hx)
      have hq : wB (x : Int) = true := by simp [wB]; omega
      have HR := Lib.hid (rweight_any (x : Int) wr)
      rw [hq] at HR
      clear hc hx hq
      go_wp2_with (go_at_call 75; refine HR.out.mono ?_; rintro e w' ⟨rfl, rfl⟩)
      go_roundg (gk - 1)
      case measure => omega
      case rel => exact ⟨k + 1, by omega, by go_num, rfl⟩
    · obtain rfl : k = l := by omega
      have HI := Lib.hid (fun W (hW : Below wr.heap.size wr W) => items_any A k c ns B W HL.out (by omega) (Nat.le_trans HB.out hW.size) (HC.out.below hW HB.out))
      obtain ⟨w1, hw1⟩ : ∃ w1, wr.alloc (.cells (madeCells #[.int .i64 0] k) 3) = w1 := ⟨_, rfl⟩
      have hmk : (Instr.makeSlice 53 (.int .i64 (k : Int)) (.int .i64 (k : Int))).run Tryz.prog wr = .ok (.slice (some ⟨wr.heap.size, 0, none⟩) k k) w1 := by rw [← hw1]; exact wei_make k (by omega) wr
      have HN1 : Hid (NB w1 wr.heap.size (List.replicate k 0)) := by show NB _ _ _; rw [← hw1]; exact wei_made wr k
      have HB1 : Hid (Below wr.heap.size wr w1) := by show Below _ _ _; rw [← hw1]; exact (Below.refl _ _).alloc (Nat.le_refl _) _
      have HZ1 : Hid (w1.heap.size = wr.heap.size + 1) := by show _ = _; rw [← hw1]; simp
      clear hw1
      obtain ⟨g, hg⟩ : ∃ g, wr.heap.size = g := ⟨_, rfl⟩
      have HG := Lib.hid hg
      rw [hg] at hmk HN1 HZ1
      clear hg
      go_wp2_with (go_at_call 76; refine (HI.out w1 HB1.out).mono ?_; rintro e w2 ⟨A7, n7, c7, rfl, hn7, ho7, hb7⟩; (obtain rfl : n7 = 1 := by rw [hn7, HN.out]; rfl); have HB7 := Lib.hid hb7; (have hcc := (cells_of_ownK ho7).2 (by rw [HN.out]; simp [itEn, elC])); obtain ⟨b7, o7, rfl, _, hcell⟩ := hcc; (have f1 : w2.cell? ⟨b7, o7 + 1, none⟩ = some (.int .i64 (s0 : Int)) := hcell 1 _ (by rw [HN.out]; rfl)); (have HN2 := Lib.hid (HN1.out.below HB7.out (by rw [HZ1.out]; omega))); (have d0 : w2.cell? ⟨g, s0, none⟩ = some (.int .i64 0) := by (have := HN2.out.cell (k := s0) (n := 0) (by simp [hs0])); simpa using this); (have d1 : w2.frozen? ⟨g, s0, none⟩ = false := HN2.out.free); clear hn7 ho7 hb7 hcell)
      go_ret2
      have h2 := HN2.out.set s0 1
      have h3 := h2.own (base := g) (Nat.le_refl _) (by unfold maxLen; simp; omega)
      simp only [List.length_replicate, List.length_set] at h3
      have hg := HG.out
      have hb : Below g wr w2 := by
        rw [← hg]
        exact HB1.out.trans (HB7.out.mono (by rw [HZ1.out]; omega))
      rw [hg]
      exact ⟨_, k, rfl, by rw [lensW_one HN.out, HL.out]; exact h3, hb.setCell (p := ⟨g, s0, none⟩) (Nat.le_refl _) _⟩
end Go.Proofs.YtgbbdgoleiolhaaGreat
/- Layer 7, plainly: the items of weights, and their lengths. -/
namespace Go.Proofs.YtgbbdgoleiolhaaGreat

theorem itP_nodup {ns : List Nat} : ∀ k, ((itP ns k).map (·.2)).Nodup
  | 0 => by simp [itP]
  | k + 1 => by
    have ih := itP_nodup (ns := ns) k
    rw [itP]
    split
    · split
      · rw [List.map_append, List.nodup_append]
        refine ⟨ih, by simp, fun a ha b hb => ?_⟩
        obtain ⟨x, hx, rfl⟩ := List.mem_map.1 ha
        have h3 := (itP_mem hx).2.2
        have : b = k := by simpa using hb
        omega
      · exact ih
    · exact ih
theorem itemsW_good {ns : List Nat} (h2 : 2 ≤ (itemsW ns).length) (hl : ns.length ≤ 16384) : Good (itemsW ns) where
  rise := by
    rw [RiseW, firstW, List.pairwise_map]
    exact (sortW_le _).imp fun {a b} h => by dsimp only; omega
  nodup := ((sortW_perm (itP ns ns.length)).map (·.2)).nodup_iff.2 (itP_nodup _)
  two := h2
  few := Nat.le_trans (itemsW_len ns) hl
theorem prW_all {P : Nat → Prop} : ∀ l : List WE, (∀ x ∈ l, ∀ s ∈ x.2, P s) → ∀ x ∈ prW l, ∀ s ∈ x.2, P s
  | [], _, x, h => by simp [prW] at h
  | [_], _, x, h => by simp [prW] at h
  | a :: b :: r, hl, x, h => by
    rw [prW] at h
    rcases List.mem_cons.1 h with rfl | h
    · intro s hs
      rcases List.mem_append.1 hs with hs | hs
      · exact hl a (by simp) s hs
      · exact hl b (by simp) s hs
    · exact prW_all r (fun y hy => hl y (by simp [hy])) x h
theorem rowW_all {P : Nat → Prop} {first : List WE} (h : ∀ x ∈ first, ∀ s ∈ x.2, P s) : ∀ k, ∀ x ∈ rowW first k, ∀ s ∈ x.2, P s
  | 0, x, hx => h x hx
  | k + 1, x, hx => by
    rw [rowW] at hx
    rcases mgW_mem _ _ x hx with hx | hx
    · exact h x hx
    · exact prW_all _ (rowW_all h k) x hx
theorem firstW_all {ns : List Nat} : ∀ x ∈ firstW (itemsW ns), ∀ s ∈ x.2, s < ns.length := by
  intro x hx s hs
  obtain ⟨y, hy, rfl⟩ := List.mem_map.1 hx
  have h1 : s = y.2 := by simpa using hs
  rw [h1]
  exact (itemsW_mem hy).2.2
/-- No symbol is counted more than 15 times. -/
theorem lnW_le {ns : List Nat} (hg : Good (itemsW ns)) (s : Nat) : lnW (itemsW ns) s ≤ 15 := by
  by_cases h : s ∈ (itemsW ns).map (·.2)
  · obtain ⟨x, hx, rfl⟩ := List.mem_map.1 h
    exact ln_le hg hx
  · rw [ln_none hg h]
    exact Nat.zero_le _
theorem count_flat_le {l : List WE} (s j m : Nat) (h : j ≤ m) : ((l.take j).flatMap (·.2)).count s ≤ ((l.take m).flatMap (·.2)).count s := by
  obtain ⟨d, rfl⟩ := Nat.exists_eq_add_of_le h
  rw [List.take_add, List.flatMap_append, List.count_append]
  omega
end Go.Proofs.YtgbbdgoleiolhaaGreat
