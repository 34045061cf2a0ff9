/- Layer 24: IndexEach walked. -/
import Derived.Test.YtjoifgeljjgflaaDoorMgQ14436
import Derived.Test.YtjoifgeljjgflaaDoorMgQ14435
import Derived.Test.YtjoifgeljjgflaaDoorMgQ14424
namespace Go.Proofs.YtjoifgeljjgflaaDoor
open Go.RowKit Go.Shelf

theorem own_cellsN {w : World} {b : Nat} {e : TypeId} {An : Option Addr} {n cn : Nat} {xs : List Value} (ho : w.ownsRow b e 1 (.slice An n cn) n xs) : Cells w w.heap.size An xs := fun hp => by
  rcases ownK_form ho with ⟨he, h0⟩ | ⟨g', c', he⟩
  · have := ho.1; rw [h0] at this; omega
  · injection he with hA _ hc
    subst hA hc
    obtain ⟨cur, hg, htk, _, _, _, _, hxl⟩ := ownK_row ho
    refine ⟨g', 0, rfl, (Array.getElem?_eq_some_iff.1 hg).1, fun j u hj => ?_⟩
    have := seg_cells hg 0 xs (by rw [List.drop_zero, hxl]; exact htk) j u hj
    rw [Addr.add_lit] at this
    exact this
theorem Apart.newN {w w' : World} {base g : Nat} {A : Option Addr} {c : Nat} {ms : List LM} (hx : LX w base g A c ms) {b : Nat} {e : TypeId} {An : Option Addr} {n cn : Nat} {xs : List Value} (ho : w'.ownsRow b e 1 (.slice An n cn) n xs) (hb : w.heap.size ≤ b) : Apart w' g A ms.length c An xs := fun hp => by
  rcases ownK_form ho with ⟨he, h0⟩ | ⟨g', c', he⟩
  · have := ho.1; rw [h0] at this; omega
  · injection he with hA _ hc
    subst hA hc
    obtain ⟨cur, hg, _, hbg, _⟩ := ownK_row ho
    exact ⟨g', 0, rfl, fun hk => by have := (hx.lts g' hk).1; omega, (Array.getElem?_eq_some_iff.1 hg).1⟩

set_option maxRecDepth 100000 in
set_option maxHeartbeats 4000000 in
theorem indexeach_any (A0 : Option Addr) (l c0 : Nat) (ms : List LM) (fo : ByteArray) (till : Int) (o : LOp) (w : World) (hl : ms.length = l) (hok : ∀ m ∈ ms, m.Ok) (hok2 : o.m.Ok) (hb : Cells w w.heap.size A0 (memCells ms)) :
    Calls Tryd.prog 4 #[.slice A0 l c0, .agg (.string fo :: .int .i64 till :: o.cells).toArray] w fun e w' => e = .returned (.bool true) ∧ Below w.heap.size w w' := by
  obtain ⟨W0, hW0⟩ : ∃ W0, w.alloc (.cells #[.string fo, .int .i64 till, .int .i64 o.kd, .string o.m.nm, .int .i64 o.m.at_, .int .i64 o.m.fr, .int .i64 o.m.ar, .int .i64 o.m.sz, .int .u32 o.m.su, .int .i64 o.m.me, .string o.s] 43) = W0 := ⟨_, rfl⟩
  have HB0 : Hid (Below w.heap.size w W0) := by show Below _ _ _; rw [← hW0]; exact (Below.refl _ w).alloc (Nat.le_refl _) _
  have HX0 : Hid (Box W0 w.heap.size #[.string fo, .int .i64 till, .int .i64 o.kd, .string o.m.nm, .int .i64 o.m.at_, .int .i64 o.m.fr, .int .i64 o.m.ar, .int .i64 o.m.sz, .int .u32 o.m.su, .int .i64 o.m.me, .string o.s] 43) := by show Box _ _ _ _; rw [← hW0]; exact heap_alloc_new w _
  have HZ0 : Hid (W0.heap.size = w.heap.size + 1) := by show _ = _; rw [← hW0]; simp
  have HC := Lib.hid (hb.below HB0.out (Nat.le_refl _))
  have HOK := Lib.hid hok
  have HOK2 := Lib.hid hok2
  have HL := Lib.hid hl
  have HGR := Lib.hid (great24_any A0 l c0 ms w.heap.size W0 hl HC.out)
  have HLV := Lib.hid (fun W => lives24_any W)
  have HE : Hid ((Value.string fo :: .int .i64 till :: o.cells).toArray = #[.string fo, .int .i64 till, .int .i64 o.kd, .string o.m.nm, .int .i64 o.m.at_, .int .i64 o.m.fr, .int .i64 o.m.ar, .int .i64 o.m.sz, .int .u32 o.m.su, .int .i64 o.m.me, .string o.s]) := rfl
  rw [HE.out]
  clear hb hok hok2 hl
  have y0 : W0.cell? ⟨w.heap.size, 0, none⟩ = some (.string fo) := HX0.out.cell 0
  have y1 : W0.cell? ⟨w.heap.size, 1, none⟩ = some (.int .i64 till) := HX0.out.cell 1
  have y3 : W0.cell? ⟨w.heap.size, 3, none⟩ = some (.string o.m.nm) := HX0.out.cell 3
  go_enter Tryd.func4, Tryd.ntmps4
  go_wp2_with fail
  refine HGR.out.mono ?_
  rintro e w' ⟨og, rfl, rfl, hnar⟩
  cases og with
  | true =>
    go_wp2_with (go_at_call 8; refine (HLV.out _).mono ?_; rintro e w' ⟨rfl, hbel⟩; have HB := Lib.hid (HB0.out.trans (hbel.mono HB0.out.size)); clear hbel)
    go_ret
    exact ⟨rfl, HB.out⟩
  | false =>
    have HN := Lib.hid (hnar rfl)
    clear hnar HGR
    have hl250 : l ≤ 250 := by have := HN.out.1; have := HL.out; omega
    have HAR := Lib.hid (refEnAll_any A0 l c0 ms w.heap.size W0 HL.out (by omega) HOK.out HC.out (by have := HZ0.out; omega))
    cases hall : allB ms with
    | false =>
      rw [hall] at HAR
      clear hall
      go_wp2_with (first
        | (go_at_call 10; refine HAR.out.mono ?_; rintro e w2 ⟨rfl, hbel⟩; have HB2 := Lib.hid (HB0.out.trans (hbel.mono HB0.out.size)); clear hbel HAR)
        | (go_at_call 8; refine (HLV.out _).mono ?_; rintro e w3 ⟨rfl, hbel⟩; have HB3 := Lib.hid (HB2.out.trans (hbel.mono HB2.out.size)); clear hbel HLV))
      go_ret
      exact ⟨rfl, HB3.out⟩
    | true =>
      rw [hall] at HAR
      by_cases hlf : 300 < fo.size
      · have hd1 : (300 : Int) < (fo.size : Int) := by omega
        clear hlf hall
        go_wp2_with (first
          | (go_at_call 10; refine HAR.out.mono ?_; rintro e w2 ⟨rfl, hbel⟩; have HB2 := Lib.hid (HB0.out.trans (hbel.mono HB0.out.size)); have HX2 := Lib.hid (HX0.out.below hbel HX0.out.lt); have z0 : w2.cell? ⟨w.heap.size, 0, none⟩ = some (.string fo) := HX2.out.cell 0; clear hbel HAR)
          | (go_at_call 8; refine (HLV.out _).mono ?_; rintro e w3 ⟨rfl, hbel⟩; have HB3 := Lib.hid (HB2.out.trans (hbel.mono HB2.out.size)); clear hbel HLV))
        go_ret
        exact ⟨rfl, HB3.out⟩
      · have hd1 : ¬ (300 : Int) < (fo.size : Int) := by omega
        by_cases hln : 200 < o.m.nm.size
        · have hd2 : (200 : Int) < (o.m.nm.size : Int) := by omega
          clear hlf hall hln
          go_wp2_with (first
            | (go_at_call 10; refine HAR.out.mono ?_; rintro e w2 ⟨rfl, hbel⟩; have HB2 := Lib.hid (HB0.out.trans (hbel.mono HB0.out.size)); have HX2 := Lib.hid (HX0.out.below hbel HX0.out.lt); have z0 : w2.cell? ⟨w.heap.size, 0, none⟩ = some (.string fo) := HX2.out.cell 0; have z3 : w2.cell? ⟨w.heap.size, 3, none⟩ = some (.string o.m.nm) := HX2.out.cell 3; clear hbel HAR)
            | (go_at_call 8; refine (HLV.out _).mono ?_; rintro e w3 ⟨rfl, hbel⟩; have HB3 := Lib.hid (HB2.out.trans (hbel.mono HB2.out.size)); clear hbel HLV))
          go_ret
          exact ⟨rfl, HB3.out⟩
        · have hd2 : ¬ (200 : Int) < (o.m.nm.size : Int) := by omega
          have hfo : fo.size ≤ 1000 := by omega
          clear hlf hln
          go_wp2_with fail
          refine HAR.out.mono ?_
          rintro e w1 ⟨rfl, hbel⟩
          have HB1 := Lib.hid hbel
          have HX1 := Lib.hid (HX0.out.below hbel HX0.out.lt)
          have z0 : w1.cell? ⟨w.heap.size, 0, none⟩ = some (.string fo) := HX1.out.cell 0
          have z3 : w1.cell? ⟨w.heap.size, 3, none⟩ = some (.string o.m.nm) := HX1.out.cell 3
          have HC1 := Lib.hid (HC.out.below hbel HB0.out.size)
          have HNW := Lib.hid (ixNew_good A0 l c0 ms w.heap.size w1 HL.out HOK.out HC1.out (Nat.le_trans HB0.out.size hbel.size) hall)
          have HG0 : Hid (GoodL ms) := ⟨rises_of ms hall, (allB_true.1 hall).1, fun m hm => by
            obtain ⟨j, hj⟩ := List.mem_iff_getElem?.1 hm
            obtain ⟨m', h1, h2, _⟩ := (allB_true.1 hall).2 j (List.getElem?_eq_some_iff.1 hj).1
            rw [hj] at h1
            injection h1 with h1
            subst h1
            exact ⟨h2, HOK.out _ hm⟩⟩
          clear hbel HAR hall y0 y1 y3
          go_wp2_with fail
          refine HNW.out.mono ?_
          rintro e w2 ⟨g, A1, c1, rfl, hix, hbel⟩
          have HB2 := Lib.hid hbel
          have HI2 := Lib.hid hix
          have HX2 := Lib.hid (HX1.out.below hbel HX1.out.lt)
          have x0 : w2.cell? ⟨w.heap.size, 0, none⟩ = some (.string fo) := HX2.out.cell 0
          clear hbel hix HNW z0 z3
          go_wp2_with fail
          have hbs : W0.heap.size ≤ w1.heap.size := HB1.out.size
          have HL02 : Hid (Below w.heap.size w w2) := HB0.out.trans ((HB1.out.trans (HB2.out.mono HB1.out.size)).mono HB0.out.size)
          have HC2 := Lib.hid (HC1.out.below HB2.out (Nat.le_trans HB0.out.size HB1.out.size))
          refine (ref24In_any A0 l c0 ms fo w.heap.size w2 HL.out (by omega) HC2.out HL02.out.size hfo (fun m hm => (HOK.out m hm).1)).mono ?_
          rintro e w3 ⟨A3, c3, rfl, ho3, hbel⟩
          obtain ⟨W4, hW4⟩ : ∃ W4, w3.alloc (.cells #[.slice A3 (inL fo ms).length c3] 22) = W4 := ⟨_, rfl⟩
          have hb34 : Below w3.heap.size w3 W4 := by rw [← hW4]; exact (Below.refl _ w3).alloc (Nat.le_refl _) _
          have hb24 : Below w2.heap.size w2 W4 := hbel.trans (hb34.mono hbel.size)
          have HI4 := Lib.hid (HI2.out.below hb24 rfl)
          have HX4 := Lib.hid (HX2.out.below hb24 HX2.out.lt)
          have HN4 : Hid (Box W4 w3.heap.size #[.slice A3 (inL fo ms).length c3] 22) := by show Box _ _ _ _; rw [← hW4]; exact heap_alloc_new w3 _
          have HA4 : Hid (Apart W4 g A1 ms.length c1 A3 (memCells (inL fo ms))) := (Apart.new HI2.out ho3 (Nat.le_refl _)).below hb34
          have HR4 := Lib.hid ((own_cells7 ho3).below hb34 (Nat.le_refl _))
          have HB24 := Lib.hid hb24
          have hs3 := hbel.size
          have hs4 : W4.heap.size = w3.heap.size + 1 := by rw [← hW4]; simp
          have x0' : W4.cell? ⟨w.heap.size, 0, none⟩ = some (.string fo) := HX4.out.cell 0
          clear hbel ho3 hb34 hb24 x0
          go_wp2_with fail
          try rw [hW4]
          clear hW4
          refine (ixUnder_any w1.heap.size g A1 c1 ms fo W4 HI4.out HG0.out hfo).mono ?_
          rintro e w5 ⟨v5, rfl, ho5, hbel⟩
          obtain ⟨A5, c5, rfl⟩ := own_form' ho5
          obtain ⟨W6, hW6⟩ : ∃ W6, w5.alloc (.cells #[.slice A5 (inL fo ms).length c5] 45) = W6 := ⟨_, rfl⟩
          have hb56 : Below w5.heap.size w5 W6 := by rw [← hW6]; exact (Below.refl _ w5).alloc (Nat.le_refl _) _
          have hb46 : Below W4.heap.size W4 W6 := hbel.trans (hb56.mono hbel.size)
          have HI6 := Lib.hid (HI4.out.below hb46 rfl)
          have HX6 := Lib.hid (HX4.out.below hb46 HX4.out.lt)
          have HN6 := Lib.hid (HN4.out.below hb46 HN4.out.lt)
          have HA6 := Lib.hid (HA4.out.below hb46)
          have HR6 := Lib.hid (HR4.out.below hb46 (by omega))
          have HM6 : Hid (Box W6 w5.heap.size #[.slice A5 (inL fo ms).length c5] 45) := by show Box _ _ _ _; rw [← hW6]; exact heap_alloc_new w5 _
          have HAN6 : Hid (Apart W6 g A1 ms.length c1 A5 (nmCells (inL fo ms))) := (Apart.newN HI4.out ho5 (Nat.le_refl _)).below hb56
          have HRN6 := Lib.hid ((own_cellsN ho5).below hb56 (Nat.le_refl _))
          have HB46 := Lib.hid hb46
          have hs5 := hbel.size
          have hs6 : W6.heap.size = w5.heap.size + 1 := by rw [← hW6]; simp
          have x0 : W6.cell? ⟨w.heap.size, 0, none⟩ = some (.string fo) := HX6.out.cell 0
          clear hbel ho5 hb56 hb46 x0'
          go_wp2_with fail
          try rw [hW6]
          clear hW6
          refine (ixEach_any w1.heap.size g A1 c1 ms fo W6 HI6.out HG0.out hfo).mono ?_
          rintro e w7 ⟨b7, bl7, rfl, hq7, hbg7, hblg7, hbel⟩
          have HI7 := Lib.hid (HI6.out.below hbel rfl)
          have HX7 := Lib.hid (HX6.out.below hbel HX6.out.lt)
          have HN7 := Lib.hid (HN6.out.below hbel HN6.out.lt)
          have HA7 := Lib.hid (HA6.out.below hbel)
          have HR7 := Lib.hid (HR6.out.below hbel (by omega))
          have HM7 := Lib.hid (HM6.out.below hbel HM6.out.lt)
          have HAN7 := Lib.hid (HAN6.out.below hbel)
          have HRN7 := Lib.hid (HRN6.out.below hbel (by omega))
          have HB67 := Lib.hid hbel
          have HQ7 := Lib.hid hq7
          have HBG7 := Lib.hid hbg7
          have HBLG7 := Lib.hid hblg7
          have hs7 := hbel.size
          have n0 : w7.cell? ⟨w3.heap.size, 0, none⟩ = some (.slice A3 (inL fo ms).length c3) := HN7.out.cell 0
          have m0 : w7.cell? ⟨w5.heap.size, 0, none⟩ = some (.slice A5 (inL fo ms).length c5) := HM7.out.cell 0
          have t2 := HX7.out.cell 2
          have t3 := HX7.out.cell 3
          have t4 := HX7.out.cell 4
          have t5 := HX7.out.cell 5
          have t6 := HX7.out.cell 6
          have t7 := HX7.out.cell 7
          have t8 := HX7.out.cell 8
          have t9 := HX7.out.cell 9
          have t10 := HX7.out.cell 10
          have hnf : ∀ (Z : World) (cs : Array Value), (binOp .eql 48 (.func (.func 47) #[] cs) .nilFunc).run Tryd.prog Z = .ok (.bool false) Z := fun Z cs => fnNil_run Z _ _ _ _ _ _ _ Tryd.underlying48
          clear hbel hq7 hbg7 hblg7 x0
          go_wp2_with fail
          have HNS : Hid (∀ k, w2.heap.size ≤ k ∨ k < w1.heap.size → ¬ ixS g A1 ms.length c1 k) := fun k hk hS => by have := (HI2.out.lts k hS); omega
          have HL27 : Hid (Below w2.heap.size w2 w7) := HB24.out.trans ((HB46.out.trans (HB67.out.mono (by omega))).mono (by omega))
          have HL07 : Hid (Below w.heap.size w w7) := HL02.out.trans (HL27.out.mono HL02.out.size)
          have hz0 := HZ0.out
          have APT : Hid (Apart w7 g A1 ms.length c1 A0 (memCells ms)) := fun hp => by
            obtain ⟨b, o, e, hb, _⟩ := HC.out hp
            exact ⟨b, o, e, HNS.out b (by omega), by have := HL07.out.size; omega⟩
          have HDO := Lib.hid (does_any w1.heap.size g A1 c1 ms A0 c0 w.heap.size o.kd o.m o.s w7 HI7.out HG0.out HOK2.out.1 ⟨HOK2.out.2.1, HOK2.out.2.2.1⟩ (HC2.out.below HL27.out HL02.out.size) HL07.out.size APT.out (by have := HL27.out.size; have := HB2.out.size; omega))
          rw [HL.out] at HDO
          have hlL := HL.out
          refine HDO.out.mono ?_
          rintro e w8 ⟨A8, c8, An8, cn8, rfl, hdo⟩
          have HMD := Lib.hid hdo.ixto.mod
          have hs8 := HMD.out.size
          have hs2 := HL02.out.size
          have hs27 := HL27.out.size
          obtain ⟨W9, hW9⟩ : ∃ W9, w8.alloc (.cells #[.int .i64 0] 3) = W9 := ⟨_, rfl⟩
          obtain ⟨W10, hW10⟩ : ∃ W10, W9.alloc (.cells #[.bool true] 4) = W10 := ⟨_, rfl⟩
          have hz9 : W9.heap.size = w8.heap.size + 1 := by rw [← hW9]; simp
          have hz10 : W10.heap.size = w8.heap.size + 2 := by rw [← hW10]; simp [hz9]
          have hb810 : Below w8.heap.size w8 W10 := by rw [← hW10, ← hW9]; exact ((Below.refl _ w8).alloc (Nat.le_refl _) _).alloc (by simp) _
          have HPI : Hid (Box W10 w8.heap.size #[.int .i64 0] 3) := by show Box _ _ _ _; rw [← hW10]; refine Box.alloc ?_ _; rw [← hW9]; exact heap_alloc_new w8 _
          have HPF : Hid (Box W10 W9.heap.size #[.bool true] 4) := by show Box _ _ _ _; rw [← hW10]; exact heap_alloc_new W9 _
          have HX8 := HX7.out.mod HMD.out (HNS.out _ (by omega))
          have HN8 := HN7.out.mod HMD.out (HNS.out _ (by omega))
          have HM8 := HM7.out.mod HMD.out (HNS.out _ (by omega))
          have HR8 := HR7.out.apart HA7.out HMD.out
          have HRN8 := HRN7.out.apart HAN7.out HMD.out
          have HX10 := Lib.hid (HX8.below hb810 HX8.lt)
          have HN10 := Lib.hid (HN8.below hb810 HN8.lt)
          have HM10 := Lib.hid (HM8.below hb810 HM8.lt)
          have HR10 := Lib.hid ((HR8.below hb810 (by omega)).more (show w3.heap.size ≤ w5.heap.size by omega))
          have HRN10 := Lib.hid (HRN8.below hb810 (by omega))
          obtain ⟨A7, c7, hbx7, hro7⟩ := HQ7.out.box
          have hbg := HBG7.out
          have hblg := HBLG7.out
          have hbl7 := HQ7.out.lt
          have HBX10 : Hid (Box W10 b7 #[.slice A7 (inL fo ms).length c7] 22) := by
            have h1 : Box w7 b7 #[.slice A7 (inL fo ms).length c7] 22 := hbx7
            have h2 := h1.mod HMD.out (HNS.out _ (by omega))
            exact h2.below hb810 h2.lt
          have HRV10 : Hid (Cells W10 w7.heap.size A7 (memCells (inL fo ms))) := fun hp => by
            have hp' : 0 < (inL fo ms).length := by rw [mems_len] at hp; omega
            have h1 := (hro7 hp').cells.more (show bl7 + 1 ≤ w7.heap.size by have := hbl7 hp'; omega)
            have hA : Apart w7 g A1 ms.length c1 A7 (memCells (inL fo ms)) := fun _ => by
              obtain ⟨o', cur, t, fz, e, hh, _⟩ := hro7 hp'
              exact ⟨bl7, o', e, HNS.out _ (by have := hblg hp'; omega), hbl7 hp'⟩
            exact ((h1.apart hA HMD.out).below hb810 (by omega)) hp
          have HLL : Hid ((inL fo ms).length ≤ 100000) := by show _ ≤ _; have h1 : (inL fo ms).length ≤ ms.length := (by unfold inL; exact List.length_filter_le _ _); have := HL.out; omega
          have HLI : Hid (Below w.heap.size w W10) := (HMD.out.below HL07.out (by omega) (fun k hk => by have := (HI2.out.lts k hk).2; have := HB1.out.size; omega)).trans (hb810.mono (by omega))
          have h10 := HN10.out.cell 0
          have hw8 : w.heap.size ≤ w8.heap.size := by omega
          have hp3 : w3.heap.size ≠ w8.heap.size := by omega
          have HW9 := Lib.hid hW9
          have HW10 := Lib.hid hW10
          clear hW9 hW10 hb810 HX8 HN8 HM8 HR8 HRN8 hbx7 hro7 hbg hblg hbl7 HDO APT t2 t3 t4 t5 t6 t7 t8 t9 t10 n0 m0 hdo
          go_wp2_with fail
          rw [HW9.out, HW10.out, ← hz9]
          refine (eachVals_any b7 W9.heap.size w8.heap.size w3.heap.size w5.heap.size w.heap.size A7 A3 A5 c7 c3 c5 w5.heap.size w7.heap.size (inL fo ms) till fo o.cells W10 HLL.out HBX10.out (fun e => by have h1 := HBX10.out; rw [e] at h1; have h2 := Eq.trans (Eq.symm (show W10.heap[w8.heap.size]? = some _ from h1)) HPI.out; cases h2) HRV10.out (by omega) HR10.out HRN10.out (by omega) (by omega) HPF.out HPI.out HN10.out HM10.out HX10.out).mono ?_
          rintro e w11 ⟨rfl, hi11, hm11⟩
          obtain ⟨n, hn⟩ : ∃ n, (inL fo ms).length = n := ⟨_, rfl⟩
          rw [hn] at hi11 HN10
          have HL11 : Hid (Below w.heap.size w w11) := hm11.below HLI.out (by omega) (fun k hk => by have : k = w8.heap.size := hk; omega)
          have n11 : w11.cell? ⟨w3.heap.size, 0, none⟩ = some (.slice A3 n c3) := (HN10.out.mod hm11 (fun e => hp3 e)).cell 0
          have f11 : w11.cell? ⟨W9.heap.size, 0, none⟩ = some (.bool true) := (HPF.out.mod hm11 (fun e => by have : W9.heap.size = w8.heap.size := e; omega)).cell 0
          have i11 : w11.cell? ⟨w8.heap.size, 0, none⟩ = some (.int .i64 (wantN n till)) := cell_of_row w11 _ 0 _ _ _ hi11
          have x11 : w11.cell? ⟨w.heap.size, 1, none⟩ = some (.int .i64 till) := (HX10.out.mod hm11 (fun e => by have : w.heap.size = w8.heap.size := e; omega)).cell 1
          rw [hz9] at f11
          clear hi11 hm11 h10 hn
          by_cases hpos : 0 < till
          · by_cases hlt : till < (n : Int)
            · rw [show wantN n till = till from if_pos ⟨hpos, hlt⟩] at i11
              go_wp2_with (go_at_call 8; refine (HLV.out _).mono ?_; rintro e w12 ⟨rfl, hbel⟩; have HB12 := Lib.hid (HL11.out.trans (hbel.mono HL11.out.size)); clear hbel HLV)
              go_ret
              exact ⟨rfl, HB12.out⟩
            · rw [show wantN n till = (n : Int) from if_neg (fun h => hlt h.2)] at i11
              go_wp2_with (go_at_call 8; refine (HLV.out _).mono ?_; rintro e w12 ⟨rfl, hbel⟩; have HB12 := Lib.hid (HL11.out.trans (hbel.mono HL11.out.size)); clear hbel HLV)
              go_ret
              exact ⟨rfl, HB12.out⟩
          · rw [show wantN n till = (n : Int) from if_neg (fun h => hpos h.1)] at i11
            go_wp2_with (go_at_call 8; refine (HLV.out _).mono ?_; rintro e w12 ⟨rfl, hbel⟩; have HB12 := Lib.hid (HL11.out.trans (hbel.mono HL11.out.size)); clear hbel HLV)
            go_ret
            exact ⟨rfl, HB12.out⟩
end Go.Proofs.YtjoifgeljjgflaaDoor
/- Layer 24: calls that came in. -/
namespace Go.Proofs.YtjoifgeljjgflaaDoor
open Go.RowKit

abbrev opSh : Sh := .cons (.int .i64) (.cons ixMemSh (.cons .str .nil))
theorem lop_lies {w : World} {x : List Value} (h : Lies w opSh x) : ∃ o : LOp, x = o.cells ∧ o.m.Ok := by
  obtain ⟨a, r1, rfl, _, _, ⟨kd, rfl, _⟩, h1⟩ := h
  obtain ⟨b, r2, rfl, _, _, hb, h2⟩ := h1
  obtain ⟨m, rfl, hm⟩ := ixMem_lies hb
  obtain ⟨c, r3, rfl, _, _, ⟨s, rfl, _⟩, h3⟩ := h2
  have h3' : r3 = [] := h3
  subst h3'
  exact ⟨⟨kd, m, s⟩, rfl, hm⟩
end Go.Proofs.YtjoifgeljjgflaaDoor
