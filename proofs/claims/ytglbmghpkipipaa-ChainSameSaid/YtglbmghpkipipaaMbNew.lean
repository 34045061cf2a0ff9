/- Layer 10: a finder in memory: New. -/
import Derived.Test.YtglbmghpkipipaaMbPl
import Derived.MakeChecks
import Derived.RegionTactic
import Derived.Deep.LoopGhost
import Derived.BigQuiet
import Derived.Maps.OwnSet
namespace Go.Proofs.Ytglbmghpkipipaa
open Go.RowKit Go.Maps

def uc (d : Nat) : Value := .int .u16 (d : Int)
/-- A block of numbers of 16 bits. -/
def U16B (w : World) (g : Nat) (vs : List Nat) : Prop := w.heap[g]? = some (.cells (vs.map uc).toArray 77 (0, 0))
theorem ub_cell {w : World} {g : Nat} {vs : List Nat} {i x : Nat} (h : U16B w g vs) (hx : vs[i]? = some x) : w.cell? ⟨g, i, none⟩ = some (.int .u16 (x : Int)) := by
  rw [cell_of_row w g i _ _ _ h]
  simp [hx, uc]
theorem ub_free {w : World} {g : Nat} {vs : List Nat} (h : U16B w g vs) (i : Nat) : w.frozen? ⟨g, i, none⟩ = false := frozen_of_row w g i _ _ h
theorem ub_set {w : World} {g : Nat} {vs : List Nat} (h : U16B w g vs) (i y : Nat) : U16B (w.setCell ⟨g, i, none⟩ (.int .u16 (y : Int))) g (vs.set i y) := by
  unfold U16B
  rw [heap_setCell_same w g i _ _ _ h]
  rw [List.setIfInBounds_toArray, List.map_set]
  rfl
theorem u16Info : (Try.prog.info? 77).map (fun i => (i.zero, i.size, i.bytes)) = some (some (.int .u16 0), 1, 2) := by kernel_rfl
theorem make_u16 (n : Nat) (hn : n ≤ 1000000) (W : World) :
    (Instr.makeSlice 73 (.int .i64 (n : Int)) (.int .i64 (n : Int))).run Try.prog W = .ok (.slice (some ⟨W.heap.size, 0, none⟩) n n) (W.alloc (.cells (madeCells #[.int .u16 0] n) 77)) := by
  obtain ⟨i0, hi, hz0, hz1, hz2⟩ := info_parts u16Info
  have h := run_make (P := Try.prog) W 73 77 i0 (.int .u16 0) Try.underlying73 hi hz0 .i64 .i64 n n (by omega) (Int.le_refl _) (by rw [hz2]; omega) (by omega)
  simp only [Int.toNat_natCast, hz1, Nat.mul_one] at h
  exact h
theorem made_u16 (w : World) (n : Nat) : U16B (w.alloc (.cells (madeCells #[Value.int .u16 0] n) 77)) w.heap.size (List.replicate n 0) := by
  have e : madeCells #[Value.int .u16 0] n = ((List.replicate n (0 : Nat)).map uc).toArray := by
    apply Array.toList_inj.1
    rw [toList_madeCells_one]
    simp [uc]
  unfold U16B
  rw [e]
  exact heap_alloc_new w _

/-- The distances, the first p places being laid. -/
def dL (bs : List UInt8) (l p : Nat) : List Nat := (List.range l).map fun q => if q < p then dB bs q else 0
theorem dL_len (bs : List UInt8) (l p : Nat) : (dL bs l p).length = l := by simp [dL]
theorem dL_zero (bs : List UInt8) (l : Nat) : dL bs l 0 = List.replicate l 0 := by
  unfold dL
  apply List.ext_getElem?
  intro i
  simp [List.getElem?_replicate]
  by_cases h : i < l <;> simp [h]
theorem dL_get (bs : List UInt8) (l p : Nat) {q : Nat} (hq : q < l) : (dL bs l p)[q]? = some (if q < p then dB bs q else 0) := by
  unfold dL
  rw [List.getElem?_map, List.getElem?_range hq]
  rfl
theorem dL_step (bs : List UInt8) (l p : Nat) : (dL bs l p).set p (dB bs p) = dL bs l (p + 1) := by
  apply List.ext_getElem?
  intro i
  rw [List.getElem?_set]
  by_cases hi : i < l
  · by_cases hp : p = i
    · subst hp
      rw [if_pos rfl, if_pos (by rw [dL_len]; exact hi), dL_get bs l (p + 1) hi, if_pos (by omega)]
    · rw [if_neg hp, dL_get bs l p hi, dL_get bs l (p + 1) hi]
      by_cases h : i < p
      · rw [if_pos h, if_pos (by omega)]
      · rw [if_neg h, if_neg (by omega)]
  · have e1 : (dL bs l (p + 1))[i]? = none := List.getElem?_eq_none (by rw [dL_len]; omega)
    have e2 : (dL bs l p)[i]? = none := List.getElem?_eq_none (by rw [dL_len]; omega)
    rw [e1, e2, dL_len]
    split
    · rw [if_neg (by omega)]
    · rfl
theorem dL_skip {bs : List UInt8} {l p : Nat} (h : dB bs p = 0) : dL bs l p = dL bs l (p + 1) := by
  rw [← dL_step, h]
  apply List.ext_getElem?
  intro i
  rw [List.getElem?_set]
  split
  · rename_i hp
    subst hp
    by_cases hl : p < l
    · rw [if_pos (by rw [dL_len]; exact hl), dL_get bs l p hl, if_neg (by omega)]
    · rw [if_neg (by rw [dL_len]; exact hl)]
      exact List.getElem?_eq_none (by rw [dL_len]; omega)
  · rfl

/-- A finder in memory. -/
def LF (w : World) (g g0 : Nat) (A : Option Addr) (l c : Nat) (bs : List UInt8) : Prop :=
  w.heap[g]? = some (.cells #[.slice A l c, .slice (some ⟨g0, 0, none⟩) l l] 75) ∧ U16B w g0 (dL bs l (l - 2))
theorem LF.drewN {w : World} {g g0 : Nat} {A : Option Addr} {l c : Nat} {bs : List UInt8} (h : LF w g g0 A l c bs) (n : Nat) : LF (w.drewN n) g g0 A l c bs := h
theorem LF.below {w w' : World} {B g g0 : Nat} {A : Option Addr} {l c : Nat} {bs : List UInt8} (h : LF w g g0 A l c bs) (hb : Below B w w') (hg : g < B) (hg0 : g0 < B) : LF w' g g0 A l c bs :=
  ⟨(hb.block g hg).trans h.1, (hb.block g0 hg0).trans h.2⟩
theorem own_set {w : World} {P : Program} {k : TypeId} {R : Value → Option (DataW Unit × List MemPlace)} {b n : Nat} {D : DataW Unit} {a : Addr} {v : Value} (h : w.ownsMap P k R b n D) (hb : b ≠ a.block) : (w.setCell a v).ownsMap P k R b n D := by
  obtain ⟨es, clock, h1, h2⟩ := h
  exact ⟨es, clock, (Below.heap_setCell w a v b hb).trans h1, h2⟩
theorem zeroInt (w : World) : (zeroValue 3).run Try.prog w = .ok (.int .i64 0) w := by kernel_rfl
set_option maxRecDepth 100000 in
set_option maxHeartbeats 2000000 in
theorem new_any (A : Option Addr) (l c : Nat) (bs : List UInt8) (B : Nat) (w : World) (hl : bs.length = l) (hm : l ≤ 4000) (hcap : l ≤ c) (hb : Bytes w B A bs) (hB : B ≤ w.heap.size) :
    Calls Try.prog 38 #[.slice A l c] w fun e w' => e = .returned (.pointer (some ⟨w.heap.size + 1, 0, none⟩)) ∧ LF w' (w.heap.size + 1) w.heap.size A l c bs ∧ Below w.heap.size w w' := by
  have HL := Lib.hid hl
  have HBY := Lib.hid hb
  have HB := Lib.hid hB
  have mk0 := make_u16 l (by omega)
  have hmm := @run_makeMap Try.prog
  obtain ⟨W2, hW2⟩ : ∃ W2, (w.alloc (.cells (madeCells #[.int .u16 0] l) 77)).alloc (.cells #[.slice A l c, .slice (some ⟨w.heap.size, 0, none⟩) l l] 75) = W2 := ⟨_, rfl⟩
  have HZ2 : Hid (W2.heap.size = w.heap.size + 2) := by show _ = _; rw [← hW2]; simp
  have HG0 : Hid (U16B W2 w.heap.size (dL bs l 0)) := by
    show U16B _ _ _
    rw [← hW2, dL_zero]
    exact (Below.heap_alloc _ _ _ (by simp)).trans (made_u16 w l)
  have HG1 : Hid (W2.heap[w.heap.size + 1]? = some (.cells #[.slice A l c, .slice (some ⟨w.heap.size, 0, none⟩) l l] 75)) := by
    show _ = _
    rw [← hW2]
    have h := heap_alloc_new (w.alloc (.cells (madeCells #[.int .u16 0] l) 77)) (.cells #[.slice A l c, .slice (some ⟨w.heap.size, 0, none⟩) l l] 75)
    rwa [World.size_alloc] at h
  have HB2 : Hid (Below w.heap.size w W2) := by show Below _ _ _; rw [← hW2]; exact ((Below.refl _ w).alloc (Nat.le_refl _) _).alloc (by simp) _
  clear hb hB hl
  go_enter Try.func38, Try.ntmps38
  go_wp2_with fail
  obtain ⟨G, hG⟩ : ∃ G, W2.heap.size = G := ⟨_, rfl⟩
  have HOW : Hid (∀ o : Nat, (W2.alloc (.map #[] 0)).ownsMap Try.prog 68 (plainElem Try.prog 3) G 0 (mapD bs 0)) := fun _ => by
    rw [← hG]; exact World.ownsMap_made W2 _ _ _
  have HA3 : Hid (∀ o : Obj, U16B (W2.alloc o) w.heap.size (dL bs l 0) ∧ (W2.alloc o).heap[w.heap.size + 1]? = some (.cells #[.slice A l c, .slice (some ⟨w.heap.size, 0, none⟩) l l] 75) ∧ Below w.heap.size w (W2.alloc o)) := fun o => by
    have hz := HZ2.out
    exact ⟨(Below.heap_alloc W2 o _ (by omega)).trans HG0.out, (Below.heap_alloc W2 o _ (by omega)).trans HG1.out, HB2.out.alloc (by omega) _⟩
  have HZG : Hid (G = w.heap.size + 2) := by show _ = _; rw [← hG]; exact HZ2.out
  rw [hG]
  clear hG
  go_loopg [5] (l - 2) (fun gk i wr => ∃ p : Nat, p + gk = l - 2 ∧ i = .int .i64 p ∧ U16B wr w.heap.size (dL bs l p) ∧ wr.heap[w.heap.size + 1]? = some (.cells #[.slice A l c, .slice (some ⟨w.heap.size, 0, none⟩) l l] 75) ∧
    wr.ownsMap Try.prog 68 (plainElem Try.prog 3) G p (mapD bs p) ∧ Below w.heap.size w wr)
  case atStart => exact ⟨0, by omega, rfl, (HA3.out _).1, (HA3.out _).2.1, HOW.out 0, (HA3.out _).2.2⟩
  case round =>
    obtain ⟨p, hp, rfl, g0, g1, g2, hbl⟩ := hrel
    have HBN := Lib.hid (begins_any A l c (p : Int) wr (by omega))
    have HBL := Lib.hid hbl
    have HI0 := Lib.hid g0
    have HI1 := Lib.hid g1
    have HOM := Lib.hid g2
    by_cases h : gk = 0
    · obtain rfl : p = l - 2 := by omega
      have hbg : begB l ((l - 2 : Nat) : Int) = false := by
        cases hb : begB l ((l - 2 : Nat) : Int) with
        | false => rfl
        | true => have := begB_yes hb; omega
      rw [hbg] at HBN
      clear g0 g1 g2 hbl hbg
      go_wp2_with (go_at_call 35; refine HBN.out.mono ?_; rintro e w' ⟨rfl, rfl⟩)
      go_ret
      exact ⟨rfl, ⟨HI1.out, HI0.out⟩, HBL.out⟩
    · have hbg : begB l (p : Int) = true := by
        unfold begB
        rw [decide_eq_true (by omega), decide_eq_true (by omega)]
        rfl
      rw [hbg] at HBN
      have hp3 : p + 3 ≤ l := by omega
      have hpc : ¬ c = p := by omega
      obtain ⟨x0, hx0⟩ : ∃ x, bs[p]? = some x := ⟨_, List.getElem?_eq_getElem (by have := HL.out; omega)⟩
      obtain ⟨x1, hx1⟩ : ∃ x, bs[p + 1]? = some x := ⟨_, List.getElem?_eq_getElem (by have := HL.out; omega)⟩
      obtain ⟨x2, hx2⟩ : ∃ x, bs[p + 2]? = some x := ⟨_, List.getElem?_eq_getElem (by have := HL.out; omega)⟩
      have HBG : Hid (bg bs p = (x0, x1, x2)) := by show _ = _; unfold bg; rw [List.getD, List.getD, List.getD, hx0, hx1, hx2]; rfl
      obtain ⟨b, o, rfl, hbB, hc⟩ := (HBY.out.below (HBL.out.mono HB.out) (Nat.le_refl _)) (by rw [byteCells_length, HL.out]; omega)
      have d0 : wr.cell? ⟨b, o + p, none⟩ = some (.int .u8 (x0.toNat : Int)) := hc _ _ (byteCells_get hx0)
      have d1 : wr.cell? ⟨b, o + p + 1, none⟩ = some (.int .u8 (x1.toNat : Int)) := hc _ _ (byteCells_get hx1)
      have d2 : wr.cell? ⟨b, o + p + 2, none⟩ = some (.int .u8 (x2.toNat : Int)) := hc _ _ (byteCells_get hx2)
      have hat0 : ∀ w, (Instr.arrayAt 68 (.slice (some ⟨b, o + p, none⟩) (l - p) (c - p))).run Try.prog w = .ok (.pointer (some ⟨b, o + p, none⟩)) w := fun w => run_arrayAt w 68 _ 3 _ (l - p) (c - p) Try.underlying68 (by omega)
      obtain ⟨W3, hW3⟩ : ∃ W3, wr.alloc (.cells #[.int .u8 (x0.toNat : Int), .int .u8 (x1.toNat : Int), .int .u8 (x2.toNat : Int)] 68) = W3 := ⟨_, rfl⟩
      have HOW1 : Hid (W3.ownsMap Try.prog 68 (plainElem Try.prog 3) G p (mapD bs p)) := by show World.ownsMap _ _ _ _ _ _ _; rw [← hW3]; exact HOM.out.alloc _
      have HI03 : Hid (U16B W3 w.heap.size (dL bs l p)) := by show U16B _ _ _; rw [← hW3]; exact (Below.heap_alloc _ _ _ (Array.getElem?_eq_some_iff.1 HI0.out).1).trans HI0.out
      have HI13 : Hid (W3.heap[w.heap.size + 1]? = some (.cells #[.slice (some ⟨b, o, none⟩) l c, .slice (some ⟨w.heap.size, 0, none⟩) l l] 75)) := by show _ = _; rw [← hW3]; exact (Below.heap_alloc _ _ _ (Array.getElem?_eq_some_iff.1 HI1.out).1).trans HI1.out
      have HBL3 : Hid (Below w.heap.size w W3) := by show Below _ _ _; rw [← hW3]; exact HBL.out.alloc HBL.out.size _
      have e0 : W3.cell? ⟨wr.heap.size, 0, none⟩ = some (.int .u8 (x0.toNat : Int)) := by rw [← hW3]; exact cell_of_row _ _ 0 _ _ _ (heap_alloc_new wr _)
      have e1 : W3.cell? ⟨wr.heap.size, 1, none⟩ = some (.int .u8 (x1.toNat : Int)) := by rw [← hW3]; exact cell_of_row _ _ 1 _ _ _ (heap_alloc_new wr _)
      have e2 : W3.cell? ⟨wr.heap.size, 2, none⟩ = some (.int .u8 (x2.toNat : Int)) := by rw [← hW3]; exact cell_of_row _ _ 2 _ _ _ (heap_alloc_new wr _)
      have e3 := cell_of_row W3 (w.heap.size + 1) 1 _ _ _ HI13.out
      have e4 : W3.cell? ⟨w.heap.size, p, none⟩ = some (.int .u16 0) := by
        refine (ub_cell HI03.out (x := 0) ?_)
        rw [dL_get bs l p (by omega), if_neg (by omega)]
      have f4 := ub_free HI03.out p
      have hpl : p < l := by omega
      have hrs : ¬ wr.heap.size = w.heap.size := by have := (Array.getElem?_eq_some_iff.1 HI1.out).1; omega
      have hrs' : ¬ w.heap.size = wr.heap.size := by have := (Array.getElem?_eq_some_iff.1 HI1.out).1; omega
      obtain ⟨bk, hbk⟩ : ∃ bk, backB bs (x0, x1, x2) p = bk := ⟨_, rfl⟩
      have hbl := backB_le bs (x0, x1, x2) p
      have hlk := mapD_look bs (x0, x1, x2) p
      rw [hbk] at hlk hbl
      have HLK := Lib.hid hlk
      have HCC : Hid (∀ cc : Int, (mapD bs p).atKey (klit (x0, x1, x2)) (.lit (.int .i64 0)) = .lit (.int .i64 cc) → ((bk - 1 : Nat) : Int) = cc) := fun cc h => by
        rw [HLK.out.2] at h
        split at h
        · injection h with h; injection h
        · injection h with h
          injection h with _ h
          omega
      have HWF : Hid ((Lit.int .i64 (p : Int)).wf = true) := by
        show _ = _
        simp [Lit.wf, IntKind.min, IntKind.max, IntKind.signed, IntKind.bits]
        omega
      have HDB : Hid (dB bs p = if bk = 0 ∨ 32768 < p - (bk - 1) then 0 else p - (bk - 1)) := by show _ = _; rw [dB, HBG.out, hbk]
      clear g0 g1 g2 hbg hx0 hx1 hx2 hc hbk hlk
      by_cases hb0 : bk = 0
      · subst hb0
        have HS1 : Hid (dL bs l p = dL bs l (p + 1)) := dL_skip (by rw [HDB.out, if_pos (.inl rfl)])
        go_wp2_with (first
                | (go_at_call 35; refine HBN.out.mono ?_; rintro e w' ⟨rfl, rfl⟩)
                | (at_lookup; refine wpList_lookup_own_ok_int _ rfl _ _ 76 rfl 68 3 .i64 begLaw Try.underlying76 Try.underlying3 (zeroInt _) G p (mapD bs p) rfl HOW1.out (agB (x0, x1, x2)) (klit (x0, x1, x2)) rfl (klit_key _) ?_; intro cc hat hwc; obtain rfl := HCC.out cc hat; rw [HLK.out.1]; clear hat hwc)
                | (at_mapUpdate; refine wpList_mapUpdate_own _ rfl _ _ _ 76 rfl 68 3 begLaw Try.underlying76 _ G p (mapD bs p) rfl HOW1.out (by unfold maxLen; omega) (agB (x0, x1, x2)) _ (klit (x0, x1, x2)) rfl rfl (klit_key _) _ [] (plainElem_int Try.underlying3 HWF.out) ?_; intro w5 hown5 hgrow5))
        have HO5 := Lib.hid hown5
        have HG5 := Lib.hid hgrow5
        clear hown5 hgrow5
        go_roundg (gk - 1)
        case measure => omega
        case rel =>
          have hz := HZG.out
          have hg := HG5.out
          refine ⟨p + 1, by omega, by go_num, ?_, ?_, ?_, ?_⟩
          · rw [← HS1.out]
            exact (hg.block _ (Array.getElem?_eq_some_iff.1 HI03.out).1 (by simp; omega)).trans HI03.out
          · exact (hg.block _ (Array.getElem?_eq_some_iff.1 HI13.out).1 (by simp; omega)).trans HI13.out
          · rw [mapD, HBG.out]; exact HO5.out
          · exact (HBL3.out).grown hg (by have := HBL3.out.size; omega) (fun k e => by cases e; omega)
      · obtain ⟨q, rfl⟩ : ∃ q, bk = q + 1 := ⟨bk - 1, by omega⟩
        have t0 : decide (0 < q + 1) = true := by simp
        obtain ⟨df, hdf⟩ : ∃ df, p - q = df := ⟨_, rfl⟩
        have hsub : (p : Int) - (q : Int) = (df : Int) := by omega
        have hdl : df ≤ 4000 := by omega
        have HDB2 : Hid (dB bs p = if 32768 < df then 0 else df) := by
          show _ = _
          rw [HDB.out, Nat.add_sub_cancel, hdf]
          by_cases h5 : 32768 < df
          · rw [if_pos (.inr h5), if_pos h5]
          · rw [if_neg (by omega), if_neg h5]
        have t1 : decide ((df : Int) ≤ 32768) = true := decide_eq_true (by omega)
        have hw1 : IntKind.i64.wrap (df : Int) = (df : Int) := IntWalk.i64_in _ (by omega)
        have hw2 : IntKind.u16.wrap (df : Int) = (df : Int) := by rw [IntKind.wrap_u16]; omega
        have HS1 : Hid ((dL bs l p).set p df = dL bs l (p + 1)) := by show _ = _; rw [← dL_step, HDB2.out, if_neg (by omega)]
        clear hdf hb0
        go_wp2_with (first
                | (go_at_call 35; refine HBN.out.mono ?_; rintro e w' ⟨rfl, rfl⟩)
                | (at_lookup; refine wpList_lookup_own_ok_int _ rfl _ _ 76 rfl 68 3 .i64 begLaw Try.underlying76 Try.underlying3 (zeroInt _) G p (mapD bs p) rfl HOW1.out (agB (x0, x1, x2)) (klit (x0, x1, x2)) rfl (klit_key _) ?_; intro cc hat hwc; obtain rfl := HCC.out cc hat; rw [HLK.out.1]; clear hat hwc)
                | (at_mapUpdate; refine wpList_mapUpdate_own _ rfl _ _ _ 76 rfl 68 3 begLaw Try.underlying76 _ G p (mapD bs p) rfl (own_set HOW1.out (by show G ≠ w.heap.size; have := HZG.out; omega)) (by unfold maxLen; omega) (agB (x0, x1, x2)) _ (klit (x0, x1, x2)) rfl rfl (klit_key _) _ [] (plainElem_int Try.underlying3 HWF.out) ?_; intro w5 hown5 hgrow5))
        have HO5 := Lib.hid hown5
        have HG5 := Lib.hid hgrow5
        clear hown5 hgrow5
        go_roundg (gk - 1)
        case measure => omega
        case rel =>
          have hz := HZG.out
          have hg := HG5.out
          refine ⟨p + 1, by omega, by go_num, ?_, ?_, ?_, ?_⟩
          · rw [← HS1.out]
            exact (hg.block _ (Array.getElem?_eq_some_iff.1 (ub_set HI03.out p df)).1 (by simp; omega)).trans (ub_set HI03.out p df)
          · exact (hg.block _ (Array.getElem?_eq_some_iff.1 ((Below.heap_setCell W3 ⟨w.heap.size, p, none⟩ _ _ (by show w.heap.size + 1 ≠ w.heap.size; omega)).trans HI13.out)).1 (by simp; omega)).trans ((Below.heap_setCell W3 ⟨w.heap.size, p, none⟩ _ _ (by show w.heap.size + 1 ≠ w.heap.size; omega)).trans HI13.out)
          · rw [mapD, HBG.out]; exact HO5.out
          · exact ((HBL3.out.setCell (p := ⟨w.heap.size, p, none⟩) (Nat.le_refl _) (.int .u16 (df : Int)))).grown hg (by have := (HBL3.out.setCell (p := ⟨w.heap.size, p, none⟩) (Nat.le_refl _) (.int .u16 (df : Int))).size; omega) (fun k e => by cases e; omega)
end Go.Proofs.Ytglbmghpkipipaa
