/- Layer 24: IndexKeeps walked. -/
import Derived.Test.YtjoifgeljjgflaaDoorIxP
namespace Go.Proofs.YtjoifgeljjgflaaDoor
open Go.RowKit

/-- A block that is none of an index's own. -/
def ApartB (w : World) (g : Nat) (A : Option Addr) (n c b : Nat) : Prop := ¬ ixS g A n c b ∧ b < w.heap.size
theorem ApartB.new {w w' : World} {base g : Nat} {A : Option Addr} {c : Nat} {ms : List LM} {b : Nat} (h : LX w base g A c ms) (hb : w.heap.size ≤ b) (hw : b < w'.heap.size) : ApartB w' g A ms.length c b := ⟨fun hk => by have := (h.lts b hk).1; omega, hw⟩
theorem ApartB.old {w w' : World} {base g : Nat} {A : Option Addr} {c : Nat} {ms : List LM} {b : Nat} (h : LX w base g A c ms) (hb : b < base) (hw : b < w'.heap.size) : ApartB w' g A ms.length c b := ⟨fun hk => by have := (h.lts b hk).2; omega, hw⟩
theorem ApartB.below {w w' : World} {g : Nat} {A : Option Addr} {n c b B : Nat} (ha : ApartB w g A n c b) (h : Below B w w') : ApartB w' g A n c b := ⟨ha.1, Nat.lt_of_lt_of_le ha.2 h.size⟩
theorem ApartB.to {w w' : World} {base g : Nat} {A A' : Option Addr} {n c c' b : Nat} {ms' : List LM} (ha : ApartB w g A n c b) (h : IxTo w base g A n c ms' w' A' c') : ApartB w' g A' ms'.length c' b := by
  refine ⟨fun hk => ?_, Nat.lt_of_lt_of_le ha.2 h.mod.size⟩
  rcases hk with hk | hk
  · exact ha.1 (.inl hk)
  · rcases h.place b hk with h1 | h1
    · exact ha.1 (.inr h1)
    · have := ha.2; omega
theorem Box.ix {w w' : World} {base g : Nat} {A A' : Option Addr} {n c c' b : Nat} {ms' : List LM} {cs : Array Value} {t : TypeId} (hb : Box w b cs t) (ha : ApartB w g A n c b) (h : IxTo w base g A n c ms' w' A' c') : Box w' b cs t := hb.mod h.mod ha.1
theorem getM_other {ms : List LM} (h : RisM ms) (m : LM) {s : ByteArray} (hne : s ≠ m.nm) : getM (withK LM.nm ms m) s = getM ms s := by unfold getM; rw [find_other m hne h]
theorem has_other {ms : List LM} (h : RisM ms) (m : LM) {s : ByteArray} (hne : s ≠ m.nm) : hasK LM.nm (withK LM.nm ms m) s = hasK LM.nm ms s := by rw [← findK_some, ← findK_some, find_other m hne h]
theorem getM_self {ms : List LM} (h : RisM ms) (m : LM) : getM (withK LM.nm ms m) m.nm = m := by unfold getM; rw [find_self m h]; rfl
theorem has_self {ms : List LM} (h : RisM ms) (m : LM) : hasK LM.nm (withK LM.nm ms m) m.nm = true := by rw [← findK_some, find_self m h]; rfl
theorem out_put {ms : List LM} (h : RisM ms) (m : LM) : outK LM.nm (withK LM.nm ms m) m.nm = outK LM.nm ms m.nm := by
  rcases out_with (k := LM.nm) (l := ms) m with h1 | h1
  · exact h1
  · exact absurd h h1
theorem out_len {ms : List LM} (h : RisM ms) (s : ByteArray) : ((outK LM.nm ms s).length : Int) = if hasK LM.nm ms s then (ms.length : Int) - 1 else (ms.length : Int) := by
  cases hh : hasK LM.nm ms s with
  | true => have := len_outK_there h hh; simp; omega
  | false => rw [out_not hh]; rfl
theorem out_take {ms : List LM} {s : ByteArray} {i : Nat} {x : LM} (hx : ms[i]? = some x) (hne : x.nm ≠ s) : (outK LM.nm ms s)[(outK LM.nm (ms.take i) s).length]? = some x ∧ outK LM.nm (ms.take (i + 1)) s = outK LM.nm (ms.take i) s ++ [x] := by
  have e : ms = ms.take i ++ (x :: ms.drop (i + 1)) := by
    have h1 := (List.getElem?_eq_some_iff.1 hx)
    rw [← h1.2, List.getElem_cons_drop, List.take_append_drop]
  constructor
  · have : outK LM.nm ms s = outK LM.nm (ms.take i) s ++ x :: outK LM.nm (ms.drop (i + 1)) s := by
      conv => lhs; rw [e]
      unfold outK
      rw [List.filter_append, List.filter_cons_of_pos (by simpa using hne)]
    rw [this, List.getElem?_append_right (Nat.le_refl _), Nat.sub_self]
    rfl
  · rw [take_snoc hx]
    unfold outK
    rw [List.filter_append, List.filter_cons_of_pos (by simpa using hne), List.filter_nil]
theorem out_skip {ms : List LM} {s : ByteArray} {i : Nat} {x : LM} (hx : ms[i]? = some x) (he : x.nm = s) : outK LM.nm (ms.take (i + 1)) s = outK LM.nm (ms.take i) s := by
  rw [take_snoc hx]
  unfold outK
  rw [List.filter_append, List.filter_cons_of_neg (by simpa using he), List.filter_nil, List.append_nil]

set_option linter.unusedSimpArgs false in
set_option maxRecDepth 100000 in
set_option maxHeartbeats 8000000 in
theorem keeps_ok_there (A0 : Option Addr) (l c0 : Nat) (ms : List LM) (m : LM) (s : ByteArray) (w : World) (hl : ms.length = l)
    (hok : ∀ m ∈ ms, m.Ok) (hm2 : m.nm.size ≤ 200) (hne : s ≠ m.nm) (hb : Cells w w.heap.size A0 (memCells ms)) (hall : allB ms = true) (hag : hasK LM.nm ms m.nm = true)
    (HPUTS : ∀ (g : Nat) (A1 : Option Addr) (c1 base : Nat) (W : World), LX W base g A1 c1 ms → base ≤ W.heap.size → Calls Tryd.prog 22 #[.pointer (some ⟨g, 0, none⟩), aggM m] W fun e w' => ∃ A' c', e = .returned (.int .i64 0) ∧ IxTo W base g A1 ms.length c1 (withK LM.nm ms m) w' A' c')
    (HGR : Calls Tryd.prog 7 #[.slice A0 l c0] (w.alloc (.cells #[.string m.nm, .int .i64 m.at_, .int .i64 m.fr, .int .i64 m.ar, .int .i64 m.sz, .int .u32 m.su, .int .i64 m.me] 32)) fun e w' => e = .returned (.bool false) ∧ w.alloc (.cells #[.string m.nm, .int .i64 m.at_, .int .i64 m.fr, .int .i64 m.ar, .int .i64 m.sz, .int .u32 m.su, .int .i64 m.me] 32) = w') :
    Calls Tryd.prog 6 #[.slice A0 l c0, aggM m, .string s] w fun e w' => e = .returned (.bool true) ∧ Below w.heap.size w w' := by
  obtain ⟨W0, hW0⟩ : ∃ W0, w.alloc (.cells #[.string m.nm, .int .i64 m.at_, .int .i64 m.fr, .int .i64 m.ar, .int .i64 m.sz, .int .u32 m.su, .int .i64 m.me] 32) = W0 := ⟨_, rfl⟩
  rw [hW0] at HGR
  have HGG := Lib.hid HGR
  have HB0 : Hid (Below w.heap.size w W0) := by rw [← hW0]; exact (Below.refl _ w).alloc (Nat.le_refl _) _
  have HX0 : Hid (Box W0 w.heap.size #[.string m.nm, .int .i64 m.at_, .int .i64 m.fr, .int .i64 m.ar, .int .i64 m.sz, .int .u32 m.su, .int .i64 m.me] 32) := by rw [← hW0]; exact heap_alloc_new w _
  have HC := Lib.hid (hb.below HB0.out (Nat.le_refl _))
  have hb0 := Lib.hid hb
  have HL := Lib.hid hl
  have hl200 : l ≤ 200 := by have := (allB_true.1 hall).1; omega
  have HR := Lib.hid (rises_of ms hall)
  have HNE := Lib.hid hne
  have HAG := Lib.hid hag
  have HPS := Lib.hid HPUTS
  have HNW := Lib.hid (ixNew_good A0 l c0 ms w.heap.size W0 hl hok HC.out HB0.out.size hall)
  have HLV := Lib.hid (fun W => lives24_any W)
  have hds : decide (200 < (m.nm.size : Int)) = false := by simp; omega
  have hdn : (s.toList == m.nm.toList) = false := by rw [nmEq_dec]; exact decide_eq_false hne
  have hdn2 : ¬ s.toList = m.nm.toList := by simpa using hdn
  obtain ⟨y0, y1, y2, y3, y4, y5, y6, _⟩ := box7 HX0.out
  clear hb hok hl hall hm2 hne HGR hag HPUTS
  go_enter Tryd.func6, Tryd.ntmps6
  go_wp2_with fail
  refine HGG.out.mono ?_
  rintro e w' ⟨rfl, rfl⟩
  clear HGG hW0
  go_wp2_with fail
  refine HNW.out.mono ?_
  rintro e w1 ⟨g, A1, c1, rfl, hix, hbel⟩
  have HB1 := Lib.hid (HB0.out.trans (hbel.mono HB0.out.size))
  have HI1 := Lib.hid hix
  have HX1 := Lib.hid (HX0.out.below hbel HX0.out.lt)
  have HQ1 := Lib.hid (ApartB.old (w' := w1) hix (show w.heap.size < W0.heap.size from HX0.out.lt) HX1.out.lt)
  clear y0 y1 y2 y3 y4 y5 y6 hbel hix HNW hdn hdn2 hds
  -- Get of the other name
  go_wp2_with fail
  refine (ixGet_any W0.heap.size g A1 c1 ms s w1 HI1.out).mono ?_
  rintro e w2 ⟨rfl, hbel⟩
  have HB2 := Lib.hid (HB1.out.trans (hbel.mono HB1.out.size))
  have HI2 := Lib.hid (HI1.out.below hbel rfl)
  have HX2 := Lib.hid (HX1.out.below hbel HX1.out.lt)
  have HQ2 := Lib.hid (HQ1.out.below hbel)
  obtain ⟨wa, hwa⟩ : ∃ wa, getM ms s = wa := ⟨_, rfl⟩
  have HWA := Lib.hid hwa
  rw [hwa]
  obtain ⟨th, hth⟩ : ∃ th, hasK LM.nm ms s = th := ⟨_, rfl⟩
  have HTH := Lib.hid hth
  rw [hth]
  clear hbel hwa hth
  obtain ⟨W3, hW3⟩ : ∃ W3, w2.alloc (.cells #[.string wa.nm, .int .i64 wa.at_, .int .i64 wa.fr, .int .i64 wa.ar, .int .i64 wa.sz, .int .u32 wa.su, .int .i64 wa.me] 32) = W3 := ⟨_, rfl⟩
  have hb3 : Below w2.heap.size w2 W3 := by rw [← hW3]; exact (Below.refl _ w2).alloc (Nat.le_refl _) _
  have HB3 := Lib.hid (HB2.out.trans (hb3.mono HB2.out.size))
  have HI3 := Lib.hid (HI2.out.below hb3 rfl)
  have HX3 := Lib.hid (HX2.out.below hb3 HX2.out.lt)
  have HQ3 := Lib.hid (HQ2.out.below hb3)
  have HY3 : Hid (Box W3 w2.heap.size #[.string wa.nm, .int .i64 wa.at_, .int .i64 wa.fr, .int .i64 wa.ar, .int .i64 wa.sz, .int .u32 wa.su, .int .i64 wa.me] 32) := by show Box _ _ _ _; rw [← hW3]; exact heap_alloc_new w2 _
  have HP3 := Lib.hid (ApartB.new (w' := W3) HI2.out (Nat.le_refl _) HY3.out.lt)
  obtain ⟨b0, b1, b2, b3, b4, b5, b6, _⟩ := box7 HX3.out
  clear hb3
  -- Get of the member's name
  go_wp2_with fail
  refine (ixGet_any W0.heap.size g A1 c1 ms m.nm W3 HI3.out).mono ?_
  rw [HAG.out]
  rintro e w4 ⟨rfl, hbel⟩
  have HB4 := Lib.hid (HB3.out.trans (hbel.mono HB3.out.size))
  have HI4 := Lib.hid (HI3.out.below hbel rfl)
  have HX4 := Lib.hid (HX3.out.below hbel HX3.out.lt)
  have HY4 := Lib.hid (HY3.out.below hbel HY3.out.lt)
  have HQ4 := Lib.hid (HQ3.out.below hbel)
  have HP4 := Lib.hid (HP3.out.below hbel)
  clear hbel hW3
  clear b0 b1 b2 b3 b4 b5 b6
  obtain ⟨W5, hW5⟩ : ∃ W5, w4.alloc (.cells #[.string (getM ms m.nm).nm, .int .i64 (getM ms m.nm).at_, .int .i64 (getM ms m.nm).fr, .int .i64 (getM ms m.nm).ar, .int .i64 (getM ms m.nm).sz, .int .u32 (getM ms m.nm).su, .int .i64 (getM ms m.nm).me] 32) = W5 := ⟨_, rfl⟩
  have hb5 : Below w4.heap.size w4 W5 := by rw [← hW5]; exact (Below.refl _ w4).alloc (Nat.le_refl _) _
  have HB5 := Lib.hid (HB4.out.trans (hb5.mono HB4.out.size))
  have HI5 := Lib.hid (HI4.out.below hb5 rfl)
  have HX5 := Lib.hid (HX4.out.below hb5 HX4.out.lt)
  have HY5 := Lib.hid (HY4.out.below hb5 HY4.out.lt)
  have HQ5 := Lib.hid (HQ4.out.below hb5)
  have HP5 := Lib.hid (HP4.out.below hb5)
  obtain ⟨b0, b1, b2, b3, b4, b5, b6, _⟩ := box7 HX5.out
  clear hb5
  go_wp2_with fail
  refine (ixLen_any W0.heap.size g A1 c1 ms W5 HI5.out).mono ?_
  rintro e w' ⟨rfl, rfl⟩
  have hHLl : Hid ((ms.length : Int) = (l : Int)) := by show _ = _; have := HL.out; omega
  rw [hHLl.out]
  have HPUT := Lib.hid (HPS.out g A1 c1 W0.heap.size W5 HI5.out (by have := (HI5.out.lts g (.inl rfl)); omega))
  go_wp2_with fail
  refine HPUT.out.mono ?_
  rintro e w6 ⟨A6, c6, rfl, hix⟩
  have HT6 := Lib.hid hix
  have HI6 := Lib.hid HT6.out.ix
  have HX6 := Lib.hid (HX5.out.ix HQ5.out HT6.out)
  have HY6 := Lib.hid (HY5.out.ix HP5.out HT6.out)
  have HQ6 := Lib.hid (HQ5.out.to HT6.out)
  have HP6 := Lib.hid (HP5.out.to HT6.out)
  have HB6 := Lib.hid (HT6.out.mod.belowIx HI5.out rfl HB5.out HB0.out.size)
  clear hix HPUT hW5
  clear b0 b1 b2 b3 b4 b5 b6
  obtain ⟨b0, b1, b2, b3, b4, b5, b6, _⟩ := box7 HX6.out
  go_wp2_with fail
  refine (ixGet_any W0.heap.size g A6 c6 (withK LM.nm ms m) m.nm w6 HI6.out).mono ?_
  rw [getM_self HR.out m, has_self HR.out m]
  rintro e w7 ⟨rfl, hbel⟩
  have HB7 := Lib.hid (HB6.out.trans (hbel.mono HB6.out.size))
  have HI7 := Lib.hid (HI6.out.below hbel rfl)
  have HX7 := Lib.hid (HX6.out.below hbel HX6.out.lt)
  have HY7 := Lib.hid (HY6.out.below hbel HY6.out.lt)
  have HQ7 := Lib.hid (HQ6.out.below hbel)
  have HP7 := Lib.hid (HP6.out.below hbel)
  clear hbel
  clear b0 b1 b2 b3 b4 b5 b6
  obtain ⟨W8, hW8⟩ : ∃ W8, w7.alloc (.cells #[.string m.nm, .int .i64 m.at_, .int .i64 m.fr, .int .i64 m.ar, .int .i64 m.sz, .int .u32 m.su, .int .i64 m.me] 32) = W8 := ⟨_, rfl⟩
  have hb8 : Below w7.heap.size w7 W8 := by rw [← hW8]; exact (Below.refl _ w7).alloc (Nat.le_refl _) _
  have HB8 := Lib.hid (HB7.out.trans (hb8.mono HB7.out.size))
  have HI8 := Lib.hid (HI7.out.below hb8 rfl)
  have HX8 := Lib.hid (HX7.out.below hb8 HX7.out.lt)
  have HY8 := Lib.hid (HY7.out.below hb8 HY7.out.lt)
  have HQ8 := Lib.hid (HQ7.out.below hb8)
  have HP8 := Lib.hid (HP7.out.below hb8)
  have HZ8 : Hid (Box W8 w7.heap.size #[.string m.nm, .int .i64 m.at_, .int .i64 m.fr, .int .i64 m.ar, .int .i64 m.sz, .int .u32 m.su, .int .i64 m.me] 32) := by show Box _ _ _ _; rw [← hW8]; exact heap_alloc_new w7 _
  obtain ⟨b0, b1, b2, b3, b4, b5, b6, _⟩ := box7 HX8.out
  obtain ⟨d0, d1, d2, d3, d4, d5, d6, _⟩ := box7 HZ8.out
  have hrn : ∀ V, (binOp .neq 32 (aggM m) (aggM m)).run Tryd.prog V = .ok (.bool false) V := fun V => by rw [run_neqM m m V, eqM_refl]; rfl
  clear hb8
  have HLN : Hid ((((withK LM.nm ms m)).length : Int) = (l : Int)) := by show _ = _; rw [len_withK_there HR.out m HAG.out]; have := HL.out; omega
  go_wp2_with fail
  refine (ixLen_any W0.heap.size g A6 c6 (withK LM.nm ms m) W8 HI8.out).mono ?_
  rw [HLN.out]
  rintro e w' ⟨rfl, rfl⟩
  -- Get of the other name, again
  go_wp2_with fail
  refine (ixGet_any W0.heap.size g A6 c6 (withK LM.nm ms m) s W8 HI8.out).mono ?_
  rw [getM_other HR.out m HNE.out, has_other HR.out m HNE.out, HWA.out, HTH.out]
  rintro e w9 ⟨rfl, hbel⟩
  have HB9 := Lib.hid (HB8.out.trans (hbel.mono HB8.out.size))
  have HI9 := Lib.hid (HI8.out.below hbel rfl)
  have HX9 := Lib.hid (HX8.out.below hbel HX8.out.lt)
  have HY9 := Lib.hid (HY8.out.below hbel HY8.out.lt)
  have HQ9 := Lib.hid (HQ8.out.below hbel)
  have HP9 := Lib.hid (HP8.out.below hbel)
  clear hbel hW8 d0 d1 d2 d3 d4 d5 d6 hrn
  clear b0 b1 b2 b3 b4 b5 b6
  obtain ⟨W10, hW10⟩ : ∃ W10, w9.alloc (.cells #[.string wa.nm, .int .i64 wa.at_, .int .i64 wa.fr, .int .i64 wa.ar, .int .i64 wa.sz, .int .u32 wa.su, .int .i64 wa.me] 32) = W10 := ⟨_, rfl⟩
  have hb10 : Below w9.heap.size w9 W10 := by rw [← hW10]; exact (Below.refl _ w9).alloc (Nat.le_refl _) _
  have HB10 := Lib.hid (HB9.out.trans (hb10.mono HB9.out.size))
  have HI10 := Lib.hid (HI9.out.below hb10 rfl)
  have HX10 := Lib.hid (HX9.out.below hb10 HX9.out.lt)
  have HY10 := Lib.hid (HY9.out.below hb10 HY9.out.lt)
  have HQ10 := Lib.hid (HQ9.out.below hb10)
  have HP10 := Lib.hid (HP9.out.below hb10)
  have HZ10 : Hid (Box W10 w9.heap.size #[.string wa.nm, .int .i64 wa.at_, .int .i64 wa.fr, .int .i64 wa.ar, .int .i64 wa.sz, .int .u32 wa.su, .int .i64 wa.me] 32) := by show Box _ _ _ _; rw [← hW10]; exact heap_alloc_new w9 _
  obtain ⟨b0, b1, b2, b3, b4, b5, b6, _⟩ := box7 HX10.out
  obtain ⟨d0, d1, d2, d3, d4, d5, d6, _⟩ := box7 HZ10.out
  obtain ⟨f0, f1, f2, f3, f4, f5, f6, _⟩ := box7 HY10.out
  have hrn : ∀ V, (binOp .neq 32 (aggM wa) (aggM wa)).run Tryd.prog V = .ok (.bool false) V := fun V => by rw [run_neqM wa wa V, eqM_refl]; rfl
  have hth2 : (th != th) = false := by cases th <;> rfl
  clear hb10
  -- Drop
  go_wp2_with fail
  refine (ixDrop_yes W0.heap.size g A6 c6 (withK LM.nm ms m) m.nm W10 HI10.out (has_self HR.out m)).mono ?_
  rintro e w11 ⟨A7, c7, rfl, hix⟩
  have HT := Lib.hid hix
  rw [out_put HR.out m] at HT
  have HI11 := Lib.hid HT.out.ix
  have HX11 := Lib.hid (HX10.out.ix HQ10.out HT.out)
  have HB11 := Lib.hid (HT.out.mod.belowIx HI10.out rfl HB10.out HB0.out.size)
  clear hix hW10 d0 d1 d2 d3 d4 d5 d6 f0 f1 f2 f3 f4 f5 f6 hrn hth2
  clear b0 b1 b2 b3 b4 b5 b6
  obtain ⟨b0, b1, b2, b3, b4, b5, b6, _⟩ := box7 HX11.out
  obtain ⟨os, hos⟩ : ∃ os, outK LM.nm ms m.nm = os := ⟨_, rfl⟩
  have HOS := Lib.hid hos
  rw [hos] at HI11
  have hno : hasK LM.nm os m.nm = false := by rw [← hos]; exact has_out m.nm
  have HOL : Hid ((os.length : Int) = (l : Int) - 1) := by
    show _ = _
    have := out_len HR.out m.nm
    rw [HAG.out, hos] at this
    simp at this
    have := HL.out
    omega
  have HOR := Lib.hid HI11.out.ris
  have HGZ := Lib.hid (ixGet_any W0.heap.size g A7 c7 os m.nm w11 HI11.out)
  rw [hno, getM_not hno, show aggM LM.zero = .agg #[.string ⟨#[]⟩, .int .i64 0, .int .i64 0, .int .i64 0, .int .i64 0, .int .u32 0, .int .i64 0] from rfl] at HGZ
  clear hos hno
  -- Get, behind it
  go_wp2_with fail
  refine HGZ.out.mono ?_
  rintro e w12 ⟨rfl, hbel⟩
  have HB12 := Lib.hid (HB11.out.trans (hbel.mono HB11.out.size))
  have HI12 := Lib.hid (HI11.out.below hbel rfl)
  have HX12 := Lib.hid (HX11.out.below hbel HX11.out.lt)
  clear hbel HGZ
  clear b0 b1 b2 b3 b4 b5 b6
  obtain ⟨W13, hW13⟩ : ∃ W13, W13 = w12.alloc (.cells #[.string ⟨#[]⟩, .int .i64 0, .int .i64 0, .int .i64 0, .int .i64 0, .int .u32 0, .int .i64 0] 32) := ⟨_, rfl⟩
  have hb13 : Below w12.heap.size w12 W13 := by rw [hW13]; exact (Below.refl _ w12).alloc (Nat.le_refl _) _
  have HB13 := Lib.hid (HB12.out.trans (hb13.mono HB12.out.size))
  have HI13 := Lib.hid (HI12.out.below hb13 rfl)
  have HX13 := Lib.hid (HX12.out.below hb13 HX12.out.lt)
  clear hb13
  -- All
  have HW13 := Lib.hid hW13
  clear hW13
  go_wp2_with fail
  rw [← HW13.out]
  refine (ixAll_any W0.heap.size g A7 c7 os W13 HI13.out).mono ?_
  rintro e w14 ⟨A8, c8, rfl, hown, hbel⟩
  have HB14 := Lib.hid (HB13.out.trans (hbel.mono HB13.out.size))
  have HCA := Lib.hid (own_cells7 hown)
  have HX14 := Lib.hid (HX13.out.below hbel HX13.out.lt)
  have HC14 := Lib.hid (hb0.out.below HB14.out (Nat.le_refl _))
  have hol := HOL.out
  have holn : os.length ≤ 200 := by omega
  have hwl : IntKind.i64.wrap ((l : Int) - 1) = (l : Int) - 1 := IntWalk.i64_in _ (by omega)
  have hdl : ((os.length : Int) != (l : Int) - 1) = false := by rw [hol]; simp
  clear hbel hown
  go_wp2_with fail
  clear hol hdl hwl
  go_loopg [21] os.length (fun gk i wr => ∃ k n : Nat, k + gk = os.length + 1 ∧ 1 ≤ k ∧ i = .int .i64 k ∧ wr = w14.drewN n)
  case atStart => exact ⟨1, 0, by omega, by omega, rfl, rfl⟩
  case round =>
    obtain ⟨k, n, hk, hk1, rfl, rfl⟩ := hrel
    by_cases h : k < os.length
    · obtain ⟨q, rfl⟩ : ∃ q, k = q + 1 := ⟨k - 1, by omega⟩
      obtain ⟨x, hx⟩ : ∃ x, os[q]? = some x := ⟨_, List.getElem?_eq_getElem (by omega)⟩
      obtain ⟨y, hy⟩ : ∃ y, os[q + 1]? = some y := ⟨_, List.getElem?_eq_getElem (by omega)⟩
      have hlt : Op.bytesLess x.nm.toList y.nm.toList = true := ris_get HOR.out hx hy (by omega)
      obtain ⟨b, o, rfl, hbB, hc⟩ := HCA.out (by rw [mems_len]; omega)
      obtain ⟨W, hW⟩ : ∃ W, w14.drewN n = W := ⟨_, rfl⟩
      have hbw : Below w14.heap.size w14 W := by rw [← hW]; exact Below.drewN (Below.refl _ _) _
      have p0 := (mem_at hbB hc hbw hx).c0
      have p1 := (mem_at hbB hc hbw hy).c0
      have hwq : IntKind.i64.wrap (((q + 1 : Nat) : Int) - 1) = (q : Int) := by rw [IntWalk.i64_in _ (by omega)]; omega
      have hwq2 : ((q : Int) + 1) - 1 = (q : Int) := by omega
      have hw1 : IntKind.i64.wrap (((q + 1 : Nat) : Int) + 1) = ((q + 1 : Nat) : Int) + 1 := IntWalk.i64_in _ (by omega)
      have hq0 : (q : Int) < (os.length : Int) := by omega
      have HW := Lib.hid hW
      rw [hW]
      clear hx hy hc hbw hW
      go_wp2_with fail
      go_quiet (fail)
      go_wp2
      go_roundg (gk - 1)
      case measure => omega
      case rel => exact ⟨q + 2, n + nq, by omega, by omega, by go_num, by rw [← HW.out]; exact drewN_drewN w14 n nq⟩
    · have hnk : ¬ (k : Int) < (os.length : Int) := by omega
      go_wp2
      clear hnk
      go_loopg [22, 23] l (fun gk kk i wr => ∃ i0 n : Nat, i0 + gk = l ∧ i = .int .i64 i0 ∧ kk = .int .i64 ((outK LM.nm (ms.take i0) m.nm).length : Nat) ∧ wr = w14.drewN n)
      case atStart => exact ⟨0, n, by omega, rfl, rfl, rfl⟩
      case round =>
        obtain ⟨i0, n2, hi, rfl, rfl, rfl⟩ := hrel
        obtain ⟨k0, hk0⟩ : ∃ k0, (outK LM.nm (ms.take i0) m.nm).length = k0 := ⟨_, rfl⟩
        have HK0 := Lib.hid hk0
        rw [hk0]
        clear hk0
        by_cases hil : i0 < l
        · obtain ⟨x, hx⟩ : ∃ x, ms[i0]? = some x := ⟨_, List.getElem?_eq_getElem (by have := HL.out; omega)⟩
          obtain ⟨b, o, rfl, hbB, hc⟩ := HC14.out (by rw [mems_len]; have := HL.out; omega)
          obtain ⟨W, hW⟩ : ∃ W, w14.drewN n2 = W := ⟨_, rfl⟩
          have hbw : Below w14.heap.size w14 W := by rw [← hW]; exact Below.drewN (Below.refl _ _) _
          obtain ⟨c0, c1, c2, c3, c4, c5, c6⟩ := mem_at hbB hc (hbw.mono HB14.out.size) hx
          have bx : W.cell? ⟨w.heap.size, 0, none⟩ = some (.string m.nm) := (HX14.out.below hbw HX14.out.lt).cell 0
          have hw1 : IntKind.i64.wrap ((i0 : Int) + 1) = (i0 : Int) + 1 := IntWalk.i64_in _ (by omega)
          have hw2 : IntKind.i64.wrap ((k0 : Int) + 1) = (k0 : Int) + 1 := by
            have h1 : k0 ≤ i0 := by rw [← HK0.out]; exact Nat.le_trans (List.length_filter_le _ _) (by rw [List.length_take]; omega)
            exact IntWalk.i64_in _ (by omega)
          have HXX := Lib.hid hx
          have HW := Lib.hid hW
          rw [hW]
          clear hc hW
          obtain ⟨q, hq⟩ : ∃ q, (x.nm.toList == m.nm.toList) = q := ⟨_, rfl⟩
          have HQ := Lib.hid hq
          cases q with
          | true =>
            have hq2 : x.nm.toList = m.nm.toList := by simpa using hq
            clear hx hbw
            go_wp2_with fail
            go_quiet (fail)
            go_wp2
            go_roundg (gk - 1)
            case measure => omega
            case rel => exact ⟨i0 + 1, n2 + nq, by omega, by go_num, by rw [out_skip HXX.out (nmEq_of HQ.out), HK0.out], by rw [← HW.out]; exact drewN_drewN w14 n2 nq⟩
          | false =>
            have hq2 : ¬ x.nm.toList = m.nm.toList := by simpa using hq
            have hot := out_take hx (nmEq_not HQ.out)
            rw [HK0.out, HOS.out] at hot
            have hk0l := (List.getElem?_eq_some_iff.1 hot.1).1
            obtain ⟨b8, o8, rfl, hbB8, hc8⟩ := HCA.out (by rw [mems_len]; omega)
            obtain ⟨e0, e1, e2, e3, e4, e5, e6⟩ := mem_at hbB8 hc8 hbw hot.1
            have HOT := Lib.hid hot.2
            have hk0i : (k0 : Int) < (os.length : Int) := by omega
            have hk0d : ¬ (os.length : Int) ≤ (k0 : Int) := by omega
            have hk0n : ¬ os.length ≤ k0 := by omega
            have hk0e : decide (os.length ≤ k0) = false := by simp; omega
            have hrn : ∀ V, (binOp .neq 32 (aggM x) (aggM x)).run Tryd.prog V = .ok (.bool false) V := fun V => by rw [run_neqM x x V, eqM_refl]; rfl
            have HWD := Lib.hid (fun r : Nat => show ((W.drewN r) : World) = w14.drewN (n2 + r) by rw [← HW.out]; exact drewN_drewN w14 n2 r)
            clear hx hbw hot hc8
            go_wp2_with fail
            go_quiet (fail)
            generalize nq = r1
            go_wp2_with fail
            go_quiet (fail)
            go_wp2
            go_roundg (gk - 1)
            case measure => omega
            case rel => exact ⟨i0 + 1, n2 + r1 + nq, by omega, by go_num, by rw [HOT.out, List.length_append, HK0.out]; go_num, by rw [HWD.out, Nat.add_assoc]⟩
        · obtain rfl : i0 = l := by omega
          have HKE : Hid (k0 = os.length) := by
            show _ = _
            rw [← HK0.out, List.take_of_length_le (by have := HL.out; omega), HOS.out]
          rw [HKE.out]
          go_wp2_with (go_at_call 8; refine (HLV.out _).mono ?_; rintro e w15 ⟨rfl, hbel⟩; have HB15 := Lib.hid ((Below.drewN HB14.out n2).trans (hbel.mono HB14.out.size)); clear hbel)
          go_ret
          exact ⟨rfl, HB15.out⟩

set_option linter.unusedSimpArgs false in
set_option maxRecDepth 100000 in
set_option maxHeartbeats 8000000 in
theorem keeps_ok_new (A0 : Option Addr) (l c0 : Nat) (ms : List LM) (m : LM) (s : ByteArray) (w : World) (hl : ms.length = l)
    (hok : ∀ m ∈ ms, m.Ok) (hm2 : m.nm.size ≤ 200) (hne : s ≠ m.nm) (hb : Cells w w.heap.size A0 (memCells ms)) (hall : allB ms = true) (hag : hasK LM.nm ms m.nm = false)
    (HPUTS : ∀ (g : Nat) (A1 : Option Addr) (c1 base : Nat) (W : World), LX W base g A1 c1 ms → base ≤ W.heap.size → Calls Tryd.prog 22 #[.pointer (some ⟨g, 0, none⟩), aggM m] W fun e w' => ∃ A' c', e = .returned (.int .i64 0) ∧ IxTo W base g A1 ms.length c1 (withK LM.nm ms m) w' A' c')
    (HGR : Calls Tryd.prog 7 #[.slice A0 l c0] (w.alloc (.cells #[.string m.nm, .int .i64 m.at_, .int .i64 m.fr, .int .i64 m.ar, .int .i64 m.sz, .int .u32 m.su, .int .i64 m.me] 32)) fun e w' => e = .returned (.bool false) ∧ w.alloc (.cells #[.string m.nm, .int .i64 m.at_, .int .i64 m.fr, .int .i64 m.ar, .int .i64 m.sz, .int .u32 m.su, .int .i64 m.me] 32) = w') :
    Calls Tryd.prog 6 #[.slice A0 l c0, aggM m, .string s] w fun e w' => e = .returned (.bool true) ∧ Below w.heap.size w w' := by
  obtain ⟨W0, hW0⟩ : ∃ W0, w.alloc (.cells #[.string m.nm, .int .i64 m.at_, .int .i64 m.fr, .int .i64 m.ar, .int .i64 m.sz, .int .u32 m.su, .int .i64 m.me] 32) = W0 := ⟨_, rfl⟩
  rw [hW0] at HGR
  have HGG := Lib.hid HGR
  have HB0 : Hid (Below w.heap.size w W0) := by rw [← hW0]; exact (Below.refl _ w).alloc (Nat.le_refl _) _
  have HX0 : Hid (Box W0 w.heap.size #[.string m.nm, .int .i64 m.at_, .int .i64 m.fr, .int .i64 m.ar, .int .i64 m.sz, .int .u32 m.su, .int .i64 m.me] 32) := by rw [← hW0]; exact heap_alloc_new w _
  have HC := Lib.hid (hb.below HB0.out (Nat.le_refl _))
  have hb0 := Lib.hid hb
  have HL := Lib.hid hl
  have hl200 : l ≤ 200 := by have := (allB_true.1 hall).1; omega
  have HR := Lib.hid (rises_of ms hall)
  have HNE := Lib.hid hne
  have HAG := Lib.hid hag
  have HPS := Lib.hid HPUTS
  have HNW := Lib.hid (ixNew_good A0 l c0 ms w.heap.size W0 hl hok HC.out HB0.out.size hall)
  have HLV := Lib.hid (fun W => lives24_any W)
  have hds : decide (200 < (m.nm.size : Int)) = false := by simp; omega
  have hdn : (s.toList == m.nm.toList) = false := by rw [nmEq_dec]; exact decide_eq_false hne
  have hdn2 : ¬ s.toList = m.nm.toList := by simpa using hdn
  obtain ⟨y0, y1, y2, y3, y4, y5, y6, _⟩ := box7 HX0.out
  clear hb hok hl hall hm2 hne HGR hag HPUTS
  go_enter Tryd.func6, Tryd.ntmps6
  go_wp2_with fail
  refine HGG.out.mono ?_
  rintro e w' ⟨rfl, rfl⟩
  clear HGG hW0
  go_wp2_with fail
  refine HNW.out.mono ?_
  rintro e w1 ⟨g, A1, c1, rfl, hix, hbel⟩
  have HB1 := Lib.hid (HB0.out.trans (hbel.mono HB0.out.size))
  have HI1 := Lib.hid hix
  have HX1 := Lib.hid (HX0.out.below hbel HX0.out.lt)
  have HQ1 := Lib.hid (ApartB.old (w' := w1) hix (show w.heap.size < W0.heap.size from HX0.out.lt) HX1.out.lt)
  clear y0 y1 y2 y3 y4 y5 y6 hbel hix HNW hdn hdn2 hds
  -- Get of the other name
  go_wp2_with fail
  refine (ixGet_any W0.heap.size g A1 c1 ms s w1 HI1.out).mono ?_
  rintro e w2 ⟨rfl, hbel⟩
  have HB2 := Lib.hid (HB1.out.trans (hbel.mono HB1.out.size))
  have HI2 := Lib.hid (HI1.out.below hbel rfl)
  have HX2 := Lib.hid (HX1.out.below hbel HX1.out.lt)
  have HQ2 := Lib.hid (HQ1.out.below hbel)
  obtain ⟨wa, hwa⟩ : ∃ wa, getM ms s = wa := ⟨_, rfl⟩
  have HWA := Lib.hid hwa
  rw [hwa]
  obtain ⟨th, hth⟩ : ∃ th, hasK LM.nm ms s = th := ⟨_, rfl⟩
  have HTH := Lib.hid hth
  rw [hth]
  clear hbel hwa hth
  obtain ⟨W3, hW3⟩ : ∃ W3, w2.alloc (.cells #[.string wa.nm, .int .i64 wa.at_, .int .i64 wa.fr, .int .i64 wa.ar, .int .i64 wa.sz, .int .u32 wa.su, .int .i64 wa.me] 32) = W3 := ⟨_, rfl⟩
  have hb3 : Below w2.heap.size w2 W3 := by rw [← hW3]; exact (Below.refl _ w2).alloc (Nat.le_refl _) _
  have HB3 := Lib.hid (HB2.out.trans (hb3.mono HB2.out.size))
  have HI3 := Lib.hid (HI2.out.below hb3 rfl)
  have HX3 := Lib.hid (HX2.out.below hb3 HX2.out.lt)
  have HQ3 := Lib.hid (HQ2.out.below hb3)
  have HY3 : Hid (Box W3 w2.heap.size #[.string wa.nm, .int .i64 wa.at_, .int .i64 wa.fr, .int .i64 wa.ar, .int .i64 wa.sz, .int .u32 wa.su, .int .i64 wa.me] 32) := by show Box _ _ _ _; rw [← hW3]; exact heap_alloc_new w2 _
  have HP3 := Lib.hid (ApartB.new (w' := W3) HI2.out (Nat.le_refl _) HY3.out.lt)
  obtain ⟨b0, b1, b2, b3, b4, b5, b6, _⟩ := box7 HX3.out
  clear hb3
  -- Get of the member's name
  go_wp2_with fail
  refine (ixGet_any W0.heap.size g A1 c1 ms m.nm W3 HI3.out).mono ?_
  rw [HAG.out]
  rintro e w4 ⟨rfl, hbel⟩
  have HB4 := Lib.hid (HB3.out.trans (hbel.mono HB3.out.size))
  have HI4 := Lib.hid (HI3.out.below hbel rfl)
  have HX4 := Lib.hid (HX3.out.below hbel HX3.out.lt)
  have HY4 := Lib.hid (HY3.out.below hbel HY3.out.lt)
  have HQ4 := Lib.hid (HQ3.out.below hbel)
  have HP4 := Lib.hid (HP3.out.below hbel)
  clear hbel hW3
  clear b0 b1 b2 b3 b4 b5 b6
  obtain ⟨W5, hW5⟩ : ∃ W5, w4.alloc (.cells #[.string (getM ms m.nm).nm, .int .i64 (getM ms m.nm).at_, .int .i64 (getM ms m.nm).fr, .int .i64 (getM ms m.nm).ar, .int .i64 (getM ms m.nm).sz, .int .u32 (getM ms m.nm).su, .int .i64 (getM ms m.nm).me] 32) = W5 := ⟨_, rfl⟩
  have hb5 : Below w4.heap.size w4 W5 := by rw [← hW5]; exact (Below.refl _ w4).alloc (Nat.le_refl _) _
  have HB5 := Lib.hid (HB4.out.trans (hb5.mono HB4.out.size))
  have HI5 := Lib.hid (HI4.out.below hb5 rfl)
  have HX5 := Lib.hid (HX4.out.below hb5 HX4.out.lt)
  have HY5 := Lib.hid (HY4.out.below hb5 HY4.out.lt)
  have HQ5 := Lib.hid (HQ4.out.below hb5)
  have HP5 := Lib.hid (HP4.out.below hb5)
  obtain ⟨b0, b1, b2, b3, b4, b5, b6, _⟩ := box7 HX5.out
  clear hb5
  go_wp2_with fail
  refine (ixLen_any W0.heap.size g A1 c1 ms W5 HI5.out).mono ?_
  rintro e w' ⟨rfl, rfl⟩
  have hHLl : Hid ((ms.length : Int) = (l : Int)) := by show _ = _; have := HL.out; omega
  rw [hHLl.out]
  have HPUT := Lib.hid (HPS.out g A1 c1 W0.heap.size W5 HI5.out (by have := (HI5.out.lts g (.inl rfl)); omega))
  go_wp2_with fail
  refine HPUT.out.mono ?_
  rintro e w6 ⟨A6, c6, rfl, hix⟩
  have HT6 := Lib.hid hix
  have HI6 := Lib.hid HT6.out.ix
  have HX6 := Lib.hid (HX5.out.ix HQ5.out HT6.out)
  have HY6 := Lib.hid (HY5.out.ix HP5.out HT6.out)
  have HQ6 := Lib.hid (HQ5.out.to HT6.out)
  have HP6 := Lib.hid (HP5.out.to HT6.out)
  have HB6 := Lib.hid (HT6.out.mod.belowIx HI5.out rfl HB5.out HB0.out.size)
  clear hix HPUT hW5
  clear b0 b1 b2 b3 b4 b5 b6
  obtain ⟨b0, b1, b2, b3, b4, b5, b6, _⟩ := box7 HX6.out
  go_wp2_with fail
  refine (ixGet_any W0.heap.size g A6 c6 (withK LM.nm ms m) m.nm w6 HI6.out).mono ?_
  rw [getM_self HR.out m, has_self HR.out m]
  rintro e w7 ⟨rfl, hbel⟩
  have HB7 := Lib.hid (HB6.out.trans (hbel.mono HB6.out.size))
  have HI7 := Lib.hid (HI6.out.below hbel rfl)
  have HX7 := Lib.hid (HX6.out.below hbel HX6.out.lt)
  have HY7 := Lib.hid (HY6.out.below hbel HY6.out.lt)
  have HQ7 := Lib.hid (HQ6.out.below hbel)
  have HP7 := Lib.hid (HP6.out.below hbel)
  clear hbel
  clear b0 b1 b2 b3 b4 b5 b6
  obtain ⟨W8, hW8⟩ : ∃ W8, w7.alloc (.cells #[.string m.nm, .int .i64 m.at_, .int .i64 m.fr, .int .i64 m.ar, .int .i64 m.sz, .int .u32 m.su, .int .i64 m.me] 32) = W8 := ⟨_, rfl⟩
  have hb8 : Below w7.heap.size w7 W8 := by rw [← hW8]; exact (Below.refl _ w7).alloc (Nat.le_refl _) _
  have HB8 := Lib.hid (HB7.out.trans (hb8.mono HB7.out.size))
  have HI8 := Lib.hid (HI7.out.below hb8 rfl)
  have HX8 := Lib.hid (HX7.out.below hb8 HX7.out.lt)
  have HY8 := Lib.hid (HY7.out.below hb8 HY7.out.lt)
  have HQ8 := Lib.hid (HQ7.out.below hb8)
  have HP8 := Lib.hid (HP7.out.below hb8)
  have HZ8 : Hid (Box W8 w7.heap.size #[.string m.nm, .int .i64 m.at_, .int .i64 m.fr, .int .i64 m.ar, .int .i64 m.sz, .int .u32 m.su, .int .i64 m.me] 32) := by show Box _ _ _ _; rw [← hW8]; exact heap_alloc_new w7 _
  obtain ⟨b0, b1, b2, b3, b4, b5, b6, _⟩ := box7 HX8.out
  obtain ⟨d0, d1, d2, d3, d4, d5, d6, _⟩ := box7 HZ8.out
  have hrn : ∀ V, (binOp .neq 32 (aggM m) (aggM m)).run Tryd.prog V = .ok (.bool false) V := fun V => by rw [run_neqM m m V, eqM_refl]; rfl
  clear hb8
  have HLN : Hid ((((withK LM.nm ms m)).length : Int) = (l : Int) + 1) := by show _ = _; rw [len_withK_new HR.out m HAG.out]; have := HL.out; omega
  go_wp2_with fail
  refine (ixLen_any W0.heap.size g A6 c6 (withK LM.nm ms m) W8 HI8.out).mono ?_
  rw [HLN.out]
  rintro e w' ⟨rfl, rfl⟩
  go_wp2_with fail
  refine (ixLen_any W0.heap.size g A6 c6 (withK LM.nm ms m) W8 HI8.out).mono ?_
  rw [HLN.out]
  rintro e w' ⟨rfl, rfl⟩
  -- Get of the other name, again
  go_wp2_with fail
  refine (ixGet_any W0.heap.size g A6 c6 (withK LM.nm ms m) s W8 HI8.out).mono ?_
  rw [getM_other HR.out m HNE.out, has_other HR.out m HNE.out, HWA.out, HTH.out]
  rintro e w9 ⟨rfl, hbel⟩
  have HB9 := Lib.hid (HB8.out.trans (hbel.mono HB8.out.size))
  have HI9 := Lib.hid (HI8.out.below hbel rfl)
  have HX9 := Lib.hid (HX8.out.below hbel HX8.out.lt)
  have HY9 := Lib.hid (HY8.out.below hbel HY8.out.lt)
  have HQ9 := Lib.hid (HQ8.out.below hbel)
  have HP9 := Lib.hid (HP8.out.below hbel)
  clear hbel hW8 d0 d1 d2 d3 d4 d5 d6 hrn
  clear b0 b1 b2 b3 b4 b5 b6
  obtain ⟨W10, hW10⟩ : ∃ W10, w9.alloc (.cells #[.string wa.nm, .int .i64 wa.at_, .int .i64 wa.fr, .int .i64 wa.ar, .int .i64 wa.sz, .int .u32 wa.su, .int .i64 wa.me] 32) = W10 := ⟨_, rfl⟩
  have hb10 : Below w9.heap.size w9 W10 := by rw [← hW10]; exact (Below.refl _ w9).alloc (Nat.le_refl _) _
  have HB10 := Lib.hid (HB9.out.trans (hb10.mono HB9.out.size))
  have HI10 := Lib.hid (HI9.out.below hb10 rfl)
  have HX10 := Lib.hid (HX9.out.below hb10 HX9.out.lt)
  have HY10 := Lib.hid (HY9.out.below hb10 HY9.out.lt)
  have HQ10 := Lib.hid (HQ9.out.below hb10)
  have HP10 := Lib.hid (HP9.out.below hb10)
  have HZ10 : Hid (Box W10 w9.heap.size #[.string wa.nm, .int .i64 wa.at_, .int .i64 wa.fr, .int .i64 wa.ar, .int .i64 wa.sz, .int .u32 wa.su, .int .i64 wa.me] 32) := by show Box _ _ _ _; rw [← hW10]; exact heap_alloc_new w9 _
  obtain ⟨b0, b1, b2, b3, b4, b5, b6, _⟩ := box7 HX10.out
  obtain ⟨d0, d1, d2, d3, d4, d5, d6, _⟩ := box7 HZ10.out
  obtain ⟨f0, f1, f2, f3, f4, f5, f6, _⟩ := box7 HY10.out
  have hrn : ∀ V, (binOp .neq 32 (aggM wa) (aggM wa)).run Tryd.prog V = .ok (.bool false) V := fun V => by rw [run_neqM wa wa V, eqM_refl]; rfl
  have hth2 : (th != th) = false := by cases th <;> rfl
  clear hb10
  -- Drop
  go_wp2_with fail
  refine (ixDrop_yes W0.heap.size g A6 c6 (withK LM.nm ms m) m.nm W10 HI10.out (has_self HR.out m)).mono ?_
  rintro e w11 ⟨A7, c7, rfl, hix⟩
  have HT := Lib.hid hix
  rw [out_put HR.out m] at HT
  have HI11 := Lib.hid HT.out.ix
  have HX11 := Lib.hid (HX10.out.ix HQ10.out HT.out)
  have HB11 := Lib.hid (HT.out.mod.belowIx HI10.out rfl HB10.out HB0.out.size)
  clear hix hW10 d0 d1 d2 d3 d4 d5 d6 f0 f1 f2 f3 f4 f5 f6 hrn hth2
  clear b0 b1 b2 b3 b4 b5 b6
  obtain ⟨b0, b1, b2, b3, b4, b5, b6, _⟩ := box7 HX11.out
  obtain ⟨os, hos⟩ : ∃ os, outK LM.nm ms m.nm = os := ⟨_, rfl⟩
  have HOS := Lib.hid hos
  rw [hos] at HI11
  have hno : hasK LM.nm os m.nm = false := by rw [← hos]; exact has_out m.nm
  have HOL : Hid ((os.length : Int) = (l : Int)) := by
    show _ = _
    have := out_len HR.out m.nm
    rw [HAG.out, hos] at this
    simp at this
    have := HL.out
    omega
  have HOR := Lib.hid HI11.out.ris
  have HGZ := Lib.hid (ixGet_any W0.heap.size g A7 c7 os m.nm w11 HI11.out)
  rw [hno, getM_not hno, show aggM LM.zero = .agg #[.string ⟨#[]⟩, .int .i64 0, .int .i64 0, .int .i64 0, .int .i64 0, .int .u32 0, .int .i64 0] from rfl] at HGZ
  clear hos hno
  -- Get, behind it
  go_wp2_with fail
  refine HGZ.out.mono ?_
  rintro e w12 ⟨rfl, hbel⟩
  have HB12 := Lib.hid (HB11.out.trans (hbel.mono HB11.out.size))
  have HI12 := Lib.hid (HI11.out.below hbel rfl)
  have HX12 := Lib.hid (HX11.out.below hbel HX11.out.lt)
  clear hbel HGZ
  clear b0 b1 b2 b3 b4 b5 b6
  obtain ⟨W13, hW13⟩ : ∃ W13, W13 = w12.alloc (.cells #[.string ⟨#[]⟩, .int .i64 0, .int .i64 0, .int .i64 0, .int .i64 0, .int .u32 0, .int .i64 0] 32) := ⟨_, rfl⟩
  have hb13 : Below w12.heap.size w12 W13 := by rw [hW13]; exact (Below.refl _ w12).alloc (Nat.le_refl _) _
  have HB13 := Lib.hid (HB12.out.trans (hb13.mono HB12.out.size))
  have HI13 := Lib.hid (HI12.out.below hb13 rfl)
  have HX13 := Lib.hid (HX12.out.below hb13 HX12.out.lt)
  clear hb13
  -- All
  have HW13 := Lib.hid hW13
  clear hW13
  go_wp2_with fail
  rw [← HW13.out]
  refine (ixAll_any W0.heap.size g A7 c7 os W13 HI13.out).mono ?_
  rintro e w14 ⟨A8, c8, rfl, hown, hbel⟩
  have HB14 := Lib.hid (HB13.out.trans (hbel.mono HB13.out.size))
  have HCA := Lib.hid (own_cells7 hown)
  have HX14 := Lib.hid (HX13.out.below hbel HX13.out.lt)
  have HC14 := Lib.hid (hb0.out.below HB14.out (Nat.le_refl _))
  have hol := HOL.out
  have holn : os.length ≤ 200 := by omega
  
  have hdl : ((os.length : Int) != (l : Int)) = false := by rw [hol]; simp
  clear hbel hown
  go_wp2_with fail
  clear hol hdl
  go_loopg [21] os.length (fun gk i wr => ∃ k n : Nat, k + gk = os.length + 1 ∧ 1 ≤ k ∧ i = .int .i64 k ∧ wr = w14.drewN n)
  case atStart => exact ⟨1, 0, by omega, by omega, rfl, rfl⟩
  case round =>
    obtain ⟨k, n, hk, hk1, rfl, rfl⟩ := hrel
    by_cases h : k < os.length
    · obtain ⟨q, rfl⟩ : ∃ q, k = q + 1 := ⟨k - 1, by omega⟩
      obtain ⟨x, hx⟩ : ∃ x, os[q]? = some x := ⟨_, List.getElem?_eq_getElem (by omega)⟩
      obtain ⟨y, hy⟩ : ∃ y, os[q + 1]? = some y := ⟨_, List.getElem?_eq_getElem (by omega)⟩
      have hlt : Op.bytesLess x.nm.toList y.nm.toList = true := ris_get HOR.out hx hy (by omega)
      obtain ⟨b, o, rfl, hbB, hc⟩ := HCA.out (by rw [mems_len]; omega)
      obtain ⟨W, hW⟩ : ∃ W, w14.drewN n = W := ⟨_, rfl⟩
      have hbw : Below w14.heap.size w14 W := by rw [← hW]; exact Below.drewN (Below.refl _ _) _
      have p0 := (mem_at hbB hc hbw hx).c0
      have p1 := (mem_at hbB hc hbw hy).c0
      have hwq : IntKind.i64.wrap (((q + 1 : Nat) : Int) - 1) = (q : Int) := by rw [IntWalk.i64_in _ (by omega)]; omega
      have hwq2 : ((q : Int) + 1) - 1 = (q : Int) := by omega
      have hw1 : IntKind.i64.wrap (((q + 1 : Nat) : Int) + 1) = ((q + 1 : Nat) : Int) + 1 := IntWalk.i64_in _ (by omega)
      have hq0 : (q : Int) < (os.length : Int) := by omega
      have HW := Lib.hid hW
      rw [hW]
      clear hx hy hc hbw hW
      go_wp2_with fail
      go_quiet (fail)
      go_wp2
      go_roundg (gk - 1)
      case measure => omega
      case rel => exact ⟨q + 2, n + nq, by omega, by omega, by go_num, by rw [← HW.out]; exact drewN_drewN w14 n nq⟩
    · have hnk : ¬ (k : Int) < (os.length : Int) := by omega
      go_wp2
      clear hnk
      go_loopg [22, 23] l (fun gk kk i wr => ∃ i0 n : Nat, i0 + gk = l ∧ i = .int .i64 i0 ∧ kk = .int .i64 ((outK LM.nm (ms.take i0) m.nm).length : Nat) ∧ wr = w14.drewN n)
      case atStart => exact ⟨0, n, by omega, rfl, rfl, rfl⟩
      case round =>
        obtain ⟨i0, n2, hi, rfl, rfl, rfl⟩ := hrel
        obtain ⟨k0, hk0⟩ : ∃ k0, (outK LM.nm (ms.take i0) m.nm).length = k0 := ⟨_, rfl⟩
        have HK0 := Lib.hid hk0
        rw [hk0]
        clear hk0
        by_cases hil : i0 < l
        · obtain ⟨x, hx⟩ : ∃ x, ms[i0]? = some x := ⟨_, List.getElem?_eq_getElem (by have := HL.out; omega)⟩
          obtain ⟨b, o, rfl, hbB, hc⟩ := HC14.out (by rw [mems_len]; have := HL.out; omega)
          obtain ⟨W, hW⟩ : ∃ W, w14.drewN n2 = W := ⟨_, rfl⟩
          have hbw : Below w14.heap.size w14 W := by rw [← hW]; exact Below.drewN (Below.refl _ _) _
          obtain ⟨c0, c1, c2, c3, c4, c5, c6⟩ := mem_at hbB hc (hbw.mono HB14.out.size) hx
          have bx : W.cell? ⟨w.heap.size, 0, none⟩ = some (.string m.nm) := (HX14.out.below hbw HX14.out.lt).cell 0
          have hw1 : IntKind.i64.wrap ((i0 : Int) + 1) = (i0 : Int) + 1 := IntWalk.i64_in _ (by omega)
          have hw2 : IntKind.i64.wrap ((k0 : Int) + 1) = (k0 : Int) + 1 := by
            have h1 : k0 ≤ i0 := by rw [← HK0.out]; exact Nat.le_trans (List.length_filter_le _ _) (by rw [List.length_take]; omega)
            exact IntWalk.i64_in _ (by omega)
          have HXX := Lib.hid hx
          have HW := Lib.hid hW
          rw [hW]
          clear hc hW
          obtain ⟨q, hq⟩ : ∃ q, (x.nm.toList == m.nm.toList) = q := ⟨_, rfl⟩
          have HQ := Lib.hid hq
          cases q with
          | true =>
            have hq2 : x.nm.toList = m.nm.toList := by simpa using hq
            clear hx hbw
            go_wp2_with fail
            go_quiet (fail)
            go_wp2
            go_roundg (gk - 1)
            case measure => omega
            case rel => exact ⟨i0 + 1, n2 + nq, by omega, by go_num, by rw [out_skip HXX.out (nmEq_of HQ.out), HK0.out], by rw [← HW.out]; exact drewN_drewN w14 n2 nq⟩
          | false =>
            have hq2 : ¬ x.nm.toList = m.nm.toList := by simpa using hq
            have hot := out_take hx (nmEq_not HQ.out)
            rw [HK0.out, HOS.out] at hot
            have hk0l := (List.getElem?_eq_some_iff.1 hot.1).1
            obtain ⟨b8, o8, rfl, hbB8, hc8⟩ := HCA.out (by rw [mems_len]; omega)
            obtain ⟨e0, e1, e2, e3, e4, e5, e6⟩ := mem_at hbB8 hc8 hbw hot.1
            have HOT := Lib.hid hot.2
            have hk0i : (k0 : Int) < (os.length : Int) := by omega
            have hk0d : ¬ (os.length : Int) ≤ (k0 : Int) := by omega
            have hk0n : ¬ os.length ≤ k0 := by omega
            have hk0e : decide (os.length ≤ k0) = false := by simp; omega
            have hrn : ∀ V, (binOp .neq 32 (aggM x) (aggM x)).run Tryd.prog V = .ok (.bool false) V := fun V => by rw [run_neqM x x V, eqM_refl]; rfl
            have HWD := Lib.hid (fun r : Nat => show ((W.drewN r) : World) = w14.drewN (n2 + r) by rw [← HW.out]; exact drewN_drewN w14 n2 r)
            clear hx hbw hot hc8
            go_wp2_with fail
            go_quiet (fail)
            generalize nq = r1
            go_wp2_with fail
            go_quiet (fail)
            go_wp2
            go_roundg (gk - 1)
            case measure => omega
            case rel => exact ⟨i0 + 1, n2 + r1 + nq, by omega, by go_num, by rw [HOT.out, List.length_append, HK0.out]; go_num, by rw [HWD.out, Nat.add_assoc]⟩
        · obtain rfl : i0 = l := by omega
          have HKE : Hid (k0 = os.length) := by
            show _ = _
            rw [← HK0.out, List.take_of_length_le (by have := HL.out; omega), HOS.out]
          rw [HKE.out]
          go_wp2_with (go_at_call 8; refine (HLV.out _).mono ?_; rintro e w15 ⟨rfl, hbel⟩; have HB15 := Lib.hid ((Below.drewN HB14.out n2).trans (hbel.mono HB14.out.size)); clear hbel)
          go_ret
          exact ⟨rfl, HB15.out⟩

set_option linter.unusedSimpArgs false in
set_option maxRecDepth 100000 in
set_option maxHeartbeats 8000000 in
theorem keeps_not_there (A0 : Option Addr) (l c0 : Nat) (ms : List LM) (m : LM) (s : ByteArray) (w : World) (hl : ms.length = l)
    (hok : ∀ m ∈ ms, m.Ok) (hm2 : m.nm.size ≤ 200) (hne : s ≠ m.nm) (hb : Cells w w.heap.size A0 (memCells ms)) (hall : allB ms = true) (hag : hasK LM.nm ms m.nm = true)
    (HPUTS : ∀ (g : Nat) (A1 : Option Addr) (c1 base : Nat) (W : World), LX W base g A1 c1 ms → base ≤ W.heap.size → Calls Tryd.prog 22 #[.pointer (some ⟨g, 0, none⟩), aggM m] W fun e w' => ∃ r, e = .returned (.int .i64 r) ∧ (r == 0) = false ∧ ¬ r = 0 ∧ Below W.heap.size W w')
    (HGR : Calls Tryd.prog 7 #[.slice A0 l c0] (w.alloc (.cells #[.string m.nm, .int .i64 m.at_, .int .i64 m.fr, .int .i64 m.ar, .int .i64 m.sz, .int .u32 m.su, .int .i64 m.me] 32)) fun e w' => e = .returned (.bool false) ∧ w.alloc (.cells #[.string m.nm, .int .i64 m.at_, .int .i64 m.fr, .int .i64 m.ar, .int .i64 m.sz, .int .u32 m.su, .int .i64 m.me] 32) = w') :
    Calls Tryd.prog 6 #[.slice A0 l c0, aggM m, .string s] w fun e w' => e = .returned (.bool true) ∧ Below w.heap.size w w' := by
  obtain ⟨W0, hW0⟩ : ∃ W0, w.alloc (.cells #[.string m.nm, .int .i64 m.at_, .int .i64 m.fr, .int .i64 m.ar, .int .i64 m.sz, .int .u32 m.su, .int .i64 m.me] 32) = W0 := ⟨_, rfl⟩
  rw [hW0] at HGR
  have HGG := Lib.hid HGR
  have HB0 : Hid (Below w.heap.size w W0) := by rw [← hW0]; exact (Below.refl _ w).alloc (Nat.le_refl _) _
  have HX0 : Hid (Box W0 w.heap.size #[.string m.nm, .int .i64 m.at_, .int .i64 m.fr, .int .i64 m.ar, .int .i64 m.sz, .int .u32 m.su, .int .i64 m.me] 32) := by rw [← hW0]; exact heap_alloc_new w _
  have HC := Lib.hid (hb.below HB0.out (Nat.le_refl _))
  have hb0 := Lib.hid hb
  have HL := Lib.hid hl
  have hl200 : l ≤ 200 := by have := (allB_true.1 hall).1; omega
  have HR := Lib.hid (rises_of ms hall)
  have HNE := Lib.hid hne
  have HAG := Lib.hid hag
  have HPS := Lib.hid HPUTS
  have HNW := Lib.hid (ixNew_good A0 l c0 ms w.heap.size W0 hl hok HC.out HB0.out.size hall)
  have HLV := Lib.hid (fun W => lives24_any W)
  have hds : decide (200 < (m.nm.size : Int)) = false := by simp; omega
  have hdn : (s.toList == m.nm.toList) = false := by rw [nmEq_dec]; exact decide_eq_false hne
  have hdn2 : ¬ s.toList = m.nm.toList := by simpa using hdn
  obtain ⟨y0, y1, y2, y3, y4, y5, y6, _⟩ := box7 HX0.out
  clear hb hok hl hall hm2 hne HGR hag HPUTS
  go_enter Tryd.func6, Tryd.ntmps6
  go_wp2_with fail
  refine HGG.out.mono ?_
  rintro e w' ⟨rfl, rfl⟩
  clear HGG hW0
  go_wp2_with fail
  refine HNW.out.mono ?_
  rintro e w1 ⟨g, A1, c1, rfl, hix, hbel⟩
  have HB1 := Lib.hid (HB0.out.trans (hbel.mono HB0.out.size))
  have HI1 := Lib.hid hix
  have HX1 := Lib.hid (HX0.out.below hbel HX0.out.lt)
  have HQ1 := Lib.hid (ApartB.old (w' := w1) hix (show w.heap.size < W0.heap.size from HX0.out.lt) HX1.out.lt)
  clear y0 y1 y2 y3 y4 y5 y6 hbel hix HNW hdn hdn2 hds
  -- Get of the other name
  go_wp2_with fail
  refine (ixGet_any W0.heap.size g A1 c1 ms s w1 HI1.out).mono ?_
  rintro e w2 ⟨rfl, hbel⟩
  have HB2 := Lib.hid (HB1.out.trans (hbel.mono HB1.out.size))
  have HI2 := Lib.hid (HI1.out.below hbel rfl)
  have HX2 := Lib.hid (HX1.out.below hbel HX1.out.lt)
  have HQ2 := Lib.hid (HQ1.out.below hbel)
  obtain ⟨wa, hwa⟩ : ∃ wa, getM ms s = wa := ⟨_, rfl⟩
  have HWA := Lib.hid hwa
  rw [hwa]
  obtain ⟨th, hth⟩ : ∃ th, hasK LM.nm ms s = th := ⟨_, rfl⟩
  have HTH := Lib.hid hth
  rw [hth]
  clear hbel hwa hth
  obtain ⟨W3, hW3⟩ : ∃ W3, w2.alloc (.cells #[.string wa.nm, .int .i64 wa.at_, .int .i64 wa.fr, .int .i64 wa.ar, .int .i64 wa.sz, .int .u32 wa.su, .int .i64 wa.me] 32) = W3 := ⟨_, rfl⟩
  have hb3 : Below w2.heap.size w2 W3 := by rw [← hW3]; exact (Below.refl _ w2).alloc (Nat.le_refl _) _
  have HB3 := Lib.hid (HB2.out.trans (hb3.mono HB2.out.size))
  have HI3 := Lib.hid (HI2.out.below hb3 rfl)
  have HX3 := Lib.hid (HX2.out.below hb3 HX2.out.lt)
  have HQ3 := Lib.hid (HQ2.out.below hb3)
  have HY3 : Hid (Box W3 w2.heap.size #[.string wa.nm, .int .i64 wa.at_, .int .i64 wa.fr, .int .i64 wa.ar, .int .i64 wa.sz, .int .u32 wa.su, .int .i64 wa.me] 32) := by show Box _ _ _ _; rw [← hW3]; exact heap_alloc_new w2 _
  have HP3 := Lib.hid (ApartB.new (w' := W3) HI2.out (Nat.le_refl _) HY3.out.lt)
  obtain ⟨b0, b1, b2, b3, b4, b5, b6, _⟩ := box7 HX3.out
  clear hb3
  -- Get of the member's name
  go_wp2_with fail
  refine (ixGet_any W0.heap.size g A1 c1 ms m.nm W3 HI3.out).mono ?_
  rw [HAG.out]
  rintro e w4 ⟨rfl, hbel⟩
  have HB4 := Lib.hid (HB3.out.trans (hbel.mono HB3.out.size))
  have HI4 := Lib.hid (HI3.out.below hbel rfl)
  have HX4 := Lib.hid (HX3.out.below hbel HX3.out.lt)
  have HY4 := Lib.hid (HY3.out.below hbel HY3.out.lt)
  have HQ4 := Lib.hid (HQ3.out.below hbel)
  have HP4 := Lib.hid (HP3.out.below hbel)
  clear hbel hW3
  clear b0 b1 b2 b3 b4 b5 b6
  obtain ⟨W5, hW5⟩ : ∃ W5, w4.alloc (.cells #[.string (getM ms m.nm).nm, .int .i64 (getM ms m.nm).at_, .int .i64 (getM ms m.nm).fr, .int .i64 (getM ms m.nm).ar, .int .i64 (getM ms m.nm).sz, .int .u32 (getM ms m.nm).su, .int .i64 (getM ms m.nm).me] 32) = W5 := ⟨_, rfl⟩
  have hb5 : Below w4.heap.size w4 W5 := by rw [← hW5]; exact (Below.refl _ w4).alloc (Nat.le_refl _) _
  have HB5 := Lib.hid (HB4.out.trans (hb5.mono HB4.out.size))
  have HI5 := Lib.hid (HI4.out.below hb5 rfl)
  have HX5 := Lib.hid (HX4.out.below hb5 HX4.out.lt)
  have HY5 := Lib.hid (HY4.out.below hb5 HY4.out.lt)
  have HQ5 := Lib.hid (HQ4.out.below hb5)
  have HP5 := Lib.hid (HP4.out.below hb5)
  obtain ⟨b0, b1, b2, b3, b4, b5, b6, _⟩ := box7 HX5.out
  clear hb5
  go_wp2_with fail
  refine (ixLen_any W0.heap.size g A1 c1 ms W5 HI5.out).mono ?_
  rintro e w' ⟨rfl, rfl⟩
  have hHLl : Hid ((ms.length : Int) = (l : Int)) := by show _ = _; have := HL.out; omega
  rw [hHLl.out]
  have HPUT := Lib.hid (HPS.out g A1 c1 W0.heap.size W5 HI5.out (by have := (HI5.out.lts g (.inl rfl)); omega))
  go_wp2_with fail
  refine HPUT.out.mono ?_
  rintro e w6 ⟨r, rfl, hr1, hr2, hbel⟩
  have HT6 := Lib.hid (IxTo.stay HI5.out hbel)
  have HI6 := Lib.hid HT6.out.ix
  have HX6 := Lib.hid (HX5.out.ix HQ5.out HT6.out)
  have HY6 := Lib.hid (HY5.out.ix HP5.out HT6.out)
  have HQ6 := Lib.hid (HQ5.out.to HT6.out)
  have HP6 := Lib.hid (HP5.out.to HT6.out)
  have HB6 := Lib.hid (HT6.out.mod.belowIx HI5.out rfl HB5.out HB0.out.size)
  clear hbel HPUT hW5
  clear b0 b1 b2 b3 b4 b5 b6
  obtain ⟨b0, b1, b2, b3, b4, b5, b6, _⟩ := box7 HX6.out
  -- Get of the other name, again
  go_wp2_with fail
  refine (ixGet_any W0.heap.size g A1 c1 ms s w6 HI6.out).mono ?_
  rw [HWA.out, HTH.out]
  rintro e w9 ⟨rfl, hbel⟩
  have HB9 := Lib.hid (HB6.out.trans (hbel.mono HB6.out.size))
  have HI9 := Lib.hid (HI6.out.below hbel rfl)
  have HX9 := Lib.hid (HX6.out.below hbel HX6.out.lt)
  have HY9 := Lib.hid (HY6.out.below hbel HY6.out.lt)
  have HQ9 := Lib.hid (HQ6.out.below hbel)
  have HP9 := Lib.hid (HP6.out.below hbel)
  clear hbel
  clear b0 b1 b2 b3 b4 b5 b6
  obtain ⟨W10, hW10⟩ : ∃ W10, w9.alloc (.cells #[.string wa.nm, .int .i64 wa.at_, .int .i64 wa.fr, .int .i64 wa.ar, .int .i64 wa.sz, .int .u32 wa.su, .int .i64 wa.me] 32) = W10 := ⟨_, rfl⟩
  have hb10 : Below w9.heap.size w9 W10 := by rw [← hW10]; exact (Below.refl _ w9).alloc (Nat.le_refl _) _
  have HB10 := Lib.hid (HB9.out.trans (hb10.mono HB9.out.size))
  have HI10 := Lib.hid (HI9.out.below hb10 rfl)
  have HX10 := Lib.hid (HX9.out.below hb10 HX9.out.lt)
  have HY10 := Lib.hid (HY9.out.below hb10 HY9.out.lt)
  have HQ10 := Lib.hid (HQ9.out.below hb10)
  have HP10 := Lib.hid (HP9.out.below hb10)
  have HZ10 : Hid (Box W10 w9.heap.size #[.string wa.nm, .int .i64 wa.at_, .int .i64 wa.fr, .int .i64 wa.ar, .int .i64 wa.sz, .int .u32 wa.su, .int .i64 wa.me] 32) := by show Box _ _ _ _; rw [← hW10]; exact heap_alloc_new w9 _
  obtain ⟨b0, b1, b2, b3, b4, b5, b6, _⟩ := box7 HX10.out
  obtain ⟨d0, d1, d2, d3, d4, d5, d6, _⟩ := box7 HZ10.out
  obtain ⟨f0, f1, f2, f3, f4, f5, f6, _⟩ := box7 HY10.out
  have hrn : ∀ V, (binOp .neq 32 (aggM wa) (aggM wa)).run Tryd.prog V = .ok (.bool false) V := fun V => by rw [run_neqM wa wa V, eqM_refl]; rfl
  have hth2 : (th != th) = false := by cases th <;> rfl
  clear hb10
  -- Drop
  go_wp2_with fail
  refine (ixDrop_yes W0.heap.size g A1 c1 ms m.nm W10 HI10.out (HAG.out)).mono ?_
  rintro e w11 ⟨A7, c7, rfl, hix⟩
  have HT := Lib.hid hix
  have HI11 := Lib.hid HT.out.ix
  have HX11 := Lib.hid (HX10.out.ix HQ10.out HT.out)
  have HB11 := Lib.hid (HT.out.mod.belowIx HI10.out rfl HB10.out HB0.out.size)
  clear hix hW10 d0 d1 d2 d3 d4 d5 d6 f0 f1 f2 f3 f4 f5 f6 hrn hth2
  clear b0 b1 b2 b3 b4 b5 b6
  obtain ⟨b0, b1, b2, b3, b4, b5, b6, _⟩ := box7 HX11.out
  obtain ⟨os, hos⟩ : ∃ os, outK LM.nm ms m.nm = os := ⟨_, rfl⟩
  have HOS := Lib.hid hos
  rw [hos] at HI11
  have hno : hasK LM.nm os m.nm = false := by rw [← hos]; exact has_out m.nm
  have HOL : Hid ((os.length : Int) = (l : Int) - 1) := by
    show _ = _
    have := out_len HR.out m.nm
    rw [HAG.out, hos] at this
    simp at this
    have := HL.out
    omega
  have HOR := Lib.hid HI11.out.ris
  have HGZ := Lib.hid (ixGet_any W0.heap.size g A7 c7 os m.nm w11 HI11.out)
  rw [hno, getM_not hno, show aggM LM.zero = .agg #[.string ⟨#[]⟩, .int .i64 0, .int .i64 0, .int .i64 0, .int .i64 0, .int .u32 0, .int .i64 0] from rfl] at HGZ
  clear hos hno
  -- Get, behind it
  go_wp2_with fail
  refine HGZ.out.mono ?_
  rintro e w12 ⟨rfl, hbel⟩
  have HB12 := Lib.hid (HB11.out.trans (hbel.mono HB11.out.size))
  have HI12 := Lib.hid (HI11.out.below hbel rfl)
  have HX12 := Lib.hid (HX11.out.below hbel HX11.out.lt)
  clear hbel HGZ
  clear b0 b1 b2 b3 b4 b5 b6
  obtain ⟨W13, hW13⟩ : ∃ W13, W13 = w12.alloc (.cells #[.string ⟨#[]⟩, .int .i64 0, .int .i64 0, .int .i64 0, .int .i64 0, .int .u32 0, .int .i64 0] 32) := ⟨_, rfl⟩
  have hb13 : Below w12.heap.size w12 W13 := by rw [hW13]; exact (Below.refl _ w12).alloc (Nat.le_refl _) _
  have HB13 := Lib.hid (HB12.out.trans (hb13.mono HB12.out.size))
  have HI13 := Lib.hid (HI12.out.below hb13 rfl)
  have HX13 := Lib.hid (HX12.out.below hb13 HX12.out.lt)
  clear hb13
  -- All
  have HW13 := Lib.hid hW13
  clear hW13
  go_wp2_with fail
  rw [← HW13.out]
  refine (ixAll_any W0.heap.size g A7 c7 os W13 HI13.out).mono ?_
  rintro e w14 ⟨A8, c8, rfl, hown, hbel⟩
  have HB14 := Lib.hid (HB13.out.trans (hbel.mono HB13.out.size))
  have HCA := Lib.hid (own_cells7 hown)
  have HX14 := Lib.hid (HX13.out.below hbel HX13.out.lt)
  have HC14 := Lib.hid (hb0.out.below HB14.out (Nat.le_refl _))
  have hol := HOL.out
  have holn : os.length ≤ 200 := by omega
  have hwl : IntKind.i64.wrap ((l : Int) - 1) = (l : Int) - 1 := IntWalk.i64_in _ (by omega)
  have hdl : ((os.length : Int) != (l : Int) - 1) = false := by rw [hol]; simp
  clear hbel hown
  go_wp2_with fail
  clear hol hdl hwl
  go_loopg [21] os.length (fun gk i wr => ∃ k n : Nat, k + gk = os.length + 1 ∧ 1 ≤ k ∧ i = .int .i64 k ∧ wr = w14.drewN n)
  case atStart => exact ⟨1, 0, by omega, by omega, rfl, rfl⟩
  case round =>
    obtain ⟨k, n, hk, hk1, rfl, rfl⟩ := hrel
    by_cases h : k < os.length
    · obtain ⟨q, rfl⟩ : ∃ q, k = q + 1 := ⟨k - 1, by omega⟩
      obtain ⟨x, hx⟩ : ∃ x, os[q]? = some x := ⟨_, List.getElem?_eq_getElem (by omega)⟩
      obtain ⟨y, hy⟩ : ∃ y, os[q + 1]? = some y := ⟨_, List.getElem?_eq_getElem (by omega)⟩
      have hlt : Op.bytesLess x.nm.toList y.nm.toList = true := ris_get HOR.out hx hy (by omega)
      obtain ⟨b, o, rfl, hbB, hc⟩ := HCA.out (by rw [mems_len]; omega)
      obtain ⟨W, hW⟩ : ∃ W, w14.drewN n = W := ⟨_, rfl⟩
      have hbw : Below w14.heap.size w14 W := by rw [← hW]; exact Below.drewN (Below.refl _ _) _
      have p0 := (mem_at hbB hc hbw hx).c0
      have p1 := (mem_at hbB hc hbw hy).c0
      have hwq : IntKind.i64.wrap (((q + 1 : Nat) : Int) - 1) = (q : Int) := by rw [IntWalk.i64_in _ (by omega)]; omega
      have hwq2 : ((q : Int) + 1) - 1 = (q : Int) := by omega
      have hw1 : IntKind.i64.wrap (((q + 1 : Nat) : Int) + 1) = ((q + 1 : Nat) : Int) + 1 := IntWalk.i64_in _ (by omega)
      have hq0 : (q : Int) < (os.length : Int) := by omega
      have HW := Lib.hid hW
      rw [hW]
      clear hx hy hc hbw hW
      go_wp2_with fail
      go_quiet (fail)
      go_wp2
      go_roundg (gk - 1)
      case measure => omega
      case rel => exact ⟨q + 2, n + nq, by omega, by omega, by go_num, by rw [← HW.out]; exact drewN_drewN w14 n nq⟩
    · have hnk : ¬ (k : Int) < (os.length : Int) := by omega
      go_wp2
      clear hnk
      go_loopg [22, 23] l (fun gk kk i wr => ∃ i0 n : Nat, i0 + gk = l ∧ i = .int .i64 i0 ∧ kk = .int .i64 ((outK LM.nm (ms.take i0) m.nm).length : Nat) ∧ wr = w14.drewN n)
      case atStart => exact ⟨0, n, by omega, rfl, rfl, rfl⟩
      case round =>
        obtain ⟨i0, n2, hi, rfl, rfl, rfl⟩ := hrel
        obtain ⟨k0, hk0⟩ : ∃ k0, (outK LM.nm (ms.take i0) m.nm).length = k0 := ⟨_, rfl⟩
        have HK0 := Lib.hid hk0
        rw [hk0]
        clear hk0
        by_cases hil : i0 < l
        · obtain ⟨x, hx⟩ : ∃ x, ms[i0]? = some x := ⟨_, List.getElem?_eq_getElem (by have := HL.out; omega)⟩
          obtain ⟨b, o, rfl, hbB, hc⟩ := HC14.out (by rw [mems_len]; have := HL.out; omega)
          obtain ⟨W, hW⟩ : ∃ W, w14.drewN n2 = W := ⟨_, rfl⟩
          have hbw : Below w14.heap.size w14 W := by rw [← hW]; exact Below.drewN (Below.refl _ _) _
          obtain ⟨c0, c1, c2, c3, c4, c5, c6⟩ := mem_at hbB hc (hbw.mono HB14.out.size) hx
          have bx : W.cell? ⟨w.heap.size, 0, none⟩ = some (.string m.nm) := (HX14.out.below hbw HX14.out.lt).cell 0
          have hw1 : IntKind.i64.wrap ((i0 : Int) + 1) = (i0 : Int) + 1 := IntWalk.i64_in _ (by omega)
          have hw2 : IntKind.i64.wrap ((k0 : Int) + 1) = (k0 : Int) + 1 := by
            have h1 : k0 ≤ i0 := by rw [← HK0.out]; exact Nat.le_trans (List.length_filter_le _ _) (by rw [List.length_take]; omega)
            exact IntWalk.i64_in _ (by omega)
          have HXX := Lib.hid hx
          have HW := Lib.hid hW
          rw [hW]
          clear hc hW
          obtain ⟨q, hq⟩ : ∃ q, (x.nm.toList == m.nm.toList) = q := ⟨_, rfl⟩
          have HQ := Lib.hid hq
          cases q with
          | true =>
            have hq2 : x.nm.toList = m.nm.toList := by simpa using hq
            clear hx hbw
            go_wp2_with fail
            go_quiet (fail)
            go_wp2
            go_roundg (gk - 1)
            case measure => omega
            case rel => exact ⟨i0 + 1, n2 + nq, by omega, by go_num, by rw [out_skip HXX.out (nmEq_of HQ.out), HK0.out], by rw [← HW.out]; exact drewN_drewN w14 n2 nq⟩
          | false =>
            have hq2 : ¬ x.nm.toList = m.nm.toList := by simpa using hq
            have hot := out_take hx (nmEq_not HQ.out)
            rw [HK0.out, HOS.out] at hot
            have hk0l := (List.getElem?_eq_some_iff.1 hot.1).1
            obtain ⟨b8, o8, rfl, hbB8, hc8⟩ := HCA.out (by rw [mems_len]; omega)
            obtain ⟨e0, e1, e2, e3, e4, e5, e6⟩ := mem_at hbB8 hc8 hbw hot.1
            have HOT := Lib.hid hot.2
            have hk0i : (k0 : Int) < (os.length : Int) := by omega
            have hk0d : ¬ (os.length : Int) ≤ (k0 : Int) := by omega
            have hk0n : ¬ os.length ≤ k0 := by omega
            have hk0e : decide (os.length ≤ k0) = false := by simp; omega
            have hrn : ∀ V, (binOp .neq 32 (aggM x) (aggM x)).run Tryd.prog V = .ok (.bool false) V := fun V => by rw [run_neqM x x V, eqM_refl]; rfl
            have HWD := Lib.hid (fun r : Nat => show ((W.drewN r) : World) = w14.drewN (n2 + r) by rw [← HW.out]; exact drewN_drewN w14 n2 r)
            clear hx hbw hot hc8
            go_wp2_with fail
            go_quiet (fail)
            generalize nq = r1
            go_wp2_with fail
            go_quiet (fail)
            go_wp2
            go_roundg (gk - 1)
            case measure => omega
            case rel => exact ⟨i0 + 1, n2 + r1 + nq, by omega, by go_num, by rw [HOT.out, List.length_append, HK0.out]; go_num, by rw [HWD.out, Nat.add_assoc]⟩
        · obtain rfl : i0 = l := by omega
          have HKE : Hid (k0 = os.length) := by
            show _ = _
            rw [← HK0.out, List.take_of_length_le (by have := HL.out; omega), HOS.out]
          rw [HKE.out]
          go_wp2_with (go_at_call 8; refine (HLV.out _).mono ?_; rintro e w15 ⟨rfl, hbel⟩; have HB15 := Lib.hid ((Below.drewN HB14.out n2).trans (hbel.mono HB14.out.size)); clear hbel)
          go_ret
          exact ⟨rfl, HB15.out⟩

set_option linter.unusedSimpArgs false in
set_option maxRecDepth 100000 in
set_option maxHeartbeats 8000000 in
theorem keeps_not_new (A0 : Option Addr) (l c0 : Nat) (ms : List LM) (m : LM) (s : ByteArray) (w : World) (hl : ms.length = l)
    (hok : ∀ m ∈ ms, m.Ok) (hm2 : m.nm.size ≤ 200) (hne : s ≠ m.nm) (hb : Cells w w.heap.size A0 (memCells ms)) (hall : allB ms = true) (hag : hasK LM.nm ms m.nm = false)
    (HPUTS : ∀ (g : Nat) (A1 : Option Addr) (c1 base : Nat) (W : World), LX W base g A1 c1 ms → base ≤ W.heap.size → Calls Tryd.prog 22 #[.pointer (some ⟨g, 0, none⟩), aggM m] W fun e w' => ∃ r, e = .returned (.int .i64 r) ∧ (r == 0) = false ∧ ¬ r = 0 ∧ Below W.heap.size W w')
    (HGR : Calls Tryd.prog 7 #[.slice A0 l c0] (w.alloc (.cells #[.string m.nm, .int .i64 m.at_, .int .i64 m.fr, .int .i64 m.ar, .int .i64 m.sz, .int .u32 m.su, .int .i64 m.me] 32)) fun e w' => e = .returned (.bool false) ∧ w.alloc (.cells #[.string m.nm, .int .i64 m.at_, .int .i64 m.fr, .int .i64 m.ar, .int .i64 m.sz, .int .u32 m.su, .int .i64 m.me] 32) = w') :
    Calls Tryd.prog 6 #[.slice A0 l c0, aggM m, .string s] w fun e w' => e = .returned (.bool true) ∧ Below w.heap.size w w' := by
  obtain ⟨W0, hW0⟩ : ∃ W0, w.alloc (.cells #[.string m.nm, .int .i64 m.at_, .int .i64 m.fr, .int .i64 m.ar, .int .i64 m.sz, .int .u32 m.su, .int .i64 m.me] 32) = W0 := ⟨_, rfl⟩
  rw [hW0] at HGR
  have HGG := Lib.hid HGR
  have HB0 : Hid (Below w.heap.size w W0) := by rw [← hW0]; exact (Below.refl _ w).alloc (Nat.le_refl _) _
  have HX0 : Hid (Box W0 w.heap.size #[.string m.nm, .int .i64 m.at_, .int .i64 m.fr, .int .i64 m.ar, .int .i64 m.sz, .int .u32 m.su, .int .i64 m.me] 32) := by rw [← hW0]; exact heap_alloc_new w _
  have HC := Lib.hid (hb.below HB0.out (Nat.le_refl _))
  have hb0 := Lib.hid hb
  have HL := Lib.hid hl
  have hl200 : l ≤ 200 := by have := (allB_true.1 hall).1; omega
  have HR := Lib.hid (rises_of ms hall)
  have HNE := Lib.hid hne
  have HAG := Lib.hid hag
  have HPS := Lib.hid HPUTS
  have HNW := Lib.hid (ixNew_good A0 l c0 ms w.heap.size W0 hl hok HC.out HB0.out.size hall)
  have HLV := Lib.hid (fun W => lives24_any W)
  have hds : decide (200 < (m.nm.size : Int)) = false := by simp; omega
  have hdn : (s.toList == m.nm.toList) = false := by rw [nmEq_dec]; exact decide_eq_false hne
  have hdn2 : ¬ s.toList = m.nm.toList := by simpa using hdn
  obtain ⟨y0, y1, y2, y3, y4, y5, y6, _⟩ := box7 HX0.out
  clear hb hok hl hall hm2 hne HGR hag HPUTS
  go_enter Tryd.func6, Tryd.ntmps6
  go_wp2_with fail
  refine HGG.out.mono ?_
  rintro e w' ⟨rfl, rfl⟩
  clear HGG hW0
  go_wp2_with fail
  refine HNW.out.mono ?_
  rintro e w1 ⟨g, A1, c1, rfl, hix, hbel⟩
  have HB1 := Lib.hid (HB0.out.trans (hbel.mono HB0.out.size))
  have HI1 := Lib.hid hix
  have HX1 := Lib.hid (HX0.out.below hbel HX0.out.lt)
  have HQ1 := Lib.hid (ApartB.old (w' := w1) hix (show w.heap.size < W0.heap.size from HX0.out.lt) HX1.out.lt)
  clear y0 y1 y2 y3 y4 y5 y6 hbel hix HNW hdn hdn2 hds
  -- Get of the other name
  go_wp2_with fail
  refine (ixGet_any W0.heap.size g A1 c1 ms s w1 HI1.out).mono ?_
  rintro e w2 ⟨rfl, hbel⟩
  have HB2 := Lib.hid (HB1.out.trans (hbel.mono HB1.out.size))
  have HI2 := Lib.hid (HI1.out.below hbel rfl)
  have HX2 := Lib.hid (HX1.out.below hbel HX1.out.lt)
  have HQ2 := Lib.hid (HQ1.out.below hbel)
  obtain ⟨wa, hwa⟩ : ∃ wa, getM ms s = wa := ⟨_, rfl⟩
  have HWA := Lib.hid hwa
  rw [hwa]
  obtain ⟨th, hth⟩ : ∃ th, hasK LM.nm ms s = th := ⟨_, rfl⟩
  have HTH := Lib.hid hth
  rw [hth]
  clear hbel hwa hth
  obtain ⟨W3, hW3⟩ : ∃ W3, w2.alloc (.cells #[.string wa.nm, .int .i64 wa.at_, .int .i64 wa.fr, .int .i64 wa.ar, .int .i64 wa.sz, .int .u32 wa.su, .int .i64 wa.me] 32) = W3 := ⟨_, rfl⟩
  have hb3 : Below w2.heap.size w2 W3 := by rw [← hW3]; exact (Below.refl _ w2).alloc (Nat.le_refl _) _
  have HB3 := Lib.hid (HB2.out.trans (hb3.mono HB2.out.size))
  have HI3 := Lib.hid (HI2.out.below hb3 rfl)
  have HX3 := Lib.hid (HX2.out.below hb3 HX2.out.lt)
  have HQ3 := Lib.hid (HQ2.out.below hb3)
  have HY3 : Hid (Box W3 w2.heap.size #[.string wa.nm, .int .i64 wa.at_, .int .i64 wa.fr, .int .i64 wa.ar, .int .i64 wa.sz, .int .u32 wa.su, .int .i64 wa.me] 32) := by show Box _ _ _ _; rw [← hW3]; exact heap_alloc_new w2 _
  have HP3 := Lib.hid (ApartB.new (w' := W3) HI2.out (Nat.le_refl _) HY3.out.lt)
  obtain ⟨b0, b1, b2, b3, b4, b5, b6, _⟩ := box7 HX3.out
  clear hb3
  -- Get of the member's name
  go_wp2_with fail
  refine (ixGet_any W0.heap.size g A1 c1 ms m.nm W3 HI3.out).mono ?_
  rw [HAG.out]
  rintro e w4 ⟨rfl, hbel⟩
  have HB4 := Lib.hid (HB3.out.trans (hbel.mono HB3.out.size))
  have HI4 := Lib.hid (HI3.out.below hbel rfl)
  have HX4 := Lib.hid (HX3.out.below hbel HX3.out.lt)
  have HY4 := Lib.hid (HY3.out.below hbel HY3.out.lt)
  have HQ4 := Lib.hid (HQ3.out.below hbel)
  have HP4 := Lib.hid (HP3.out.below hbel)
  clear hbel hW3
  clear b0 b1 b2 b3 b4 b5 b6
  obtain ⟨W5, hW5⟩ : ∃ W5, w4.alloc (.cells #[.string (getM ms m.nm).nm, .int .i64 (getM ms m.nm).at_, .int .i64 (getM ms m.nm).fr, .int .i64 (getM ms m.nm).ar, .int .i64 (getM ms m.nm).sz, .int .u32 (getM ms m.nm).su, .int .i64 (getM ms m.nm).me] 32) = W5 := ⟨_, rfl⟩
  have hb5 : Below w4.heap.size w4 W5 := by rw [← hW5]; exact (Below.refl _ w4).alloc (Nat.le_refl _) _
  have HB5 := Lib.hid (HB4.out.trans (hb5.mono HB4.out.size))
  have HI5 := Lib.hid (HI4.out.below hb5 rfl)
  have HX5 := Lib.hid (HX4.out.below hb5 HX4.out.lt)
  have HY5 := Lib.hid (HY4.out.below hb5 HY4.out.lt)
  have HQ5 := Lib.hid (HQ4.out.below hb5)
  have HP5 := Lib.hid (HP4.out.below hb5)
  obtain ⟨b0, b1, b2, b3, b4, b5, b6, _⟩ := box7 HX5.out
  clear hb5
  go_wp2_with fail
  refine (ixLen_any W0.heap.size g A1 c1 ms W5 HI5.out).mono ?_
  rintro e w' ⟨rfl, rfl⟩
  have hHLl : Hid ((ms.length : Int) = (l : Int)) := by show _ = _; have := HL.out; omega
  rw [hHLl.out]
  have HPUT := Lib.hid (HPS.out g A1 c1 W0.heap.size W5 HI5.out (by have := (HI5.out.lts g (.inl rfl)); omega))
  go_wp2_with fail
  refine HPUT.out.mono ?_
  rintro e w6 ⟨r, rfl, hr1, hr2, hbel⟩
  have HT6 := Lib.hid (IxTo.stay HI5.out hbel)
  have HI6 := Lib.hid HT6.out.ix
  have HX6 := Lib.hid (HX5.out.ix HQ5.out HT6.out)
  have HY6 := Lib.hid (HY5.out.ix HP5.out HT6.out)
  have HQ6 := Lib.hid (HQ5.out.to HT6.out)
  have HP6 := Lib.hid (HP5.out.to HT6.out)
  have HB6 := Lib.hid (HT6.out.mod.belowIx HI5.out rfl HB5.out HB0.out.size)
  clear hbel HPUT hW5
  clear b0 b1 b2 b3 b4 b5 b6
  obtain ⟨b0, b1, b2, b3, b4, b5, b6, _⟩ := box7 HX6.out
  -- Get of the other name, again
  go_wp2_with fail
  refine (ixGet_any W0.heap.size g A1 c1 ms s w6 HI6.out).mono ?_
  rw [HWA.out, HTH.out]
  rintro e w9 ⟨rfl, hbel⟩
  have HB9 := Lib.hid (HB6.out.trans (hbel.mono HB6.out.size))
  have HI9 := Lib.hid (HI6.out.below hbel rfl)
  have HX9 := Lib.hid (HX6.out.below hbel HX6.out.lt)
  have HY9 := Lib.hid (HY6.out.below hbel HY6.out.lt)
  have HQ9 := Lib.hid (HQ6.out.below hbel)
  have HP9 := Lib.hid (HP6.out.below hbel)
  clear hbel
  clear b0 b1 b2 b3 b4 b5 b6
  obtain ⟨W10, hW10⟩ : ∃ W10, w9.alloc (.cells #[.string wa.nm, .int .i64 wa.at_, .int .i64 wa.fr, .int .i64 wa.ar, .int .i64 wa.sz, .int .u32 wa.su, .int .i64 wa.me] 32) = W10 := ⟨_, rfl⟩
  have hb10 : Below w9.heap.size w9 W10 := by rw [← hW10]; exact (Below.refl _ w9).alloc (Nat.le_refl _) _
  have HB10 := Lib.hid (HB9.out.trans (hb10.mono HB9.out.size))
  have HI10 := Lib.hid (HI9.out.below hb10 rfl)
  have HX10 := Lib.hid (HX9.out.below hb10 HX9.out.lt)
  have HY10 := Lib.hid (HY9.out.below hb10 HY9.out.lt)
  have HQ10 := Lib.hid (HQ9.out.below hb10)
  have HP10 := Lib.hid (HP9.out.below hb10)
  have HZ10 : Hid (Box W10 w9.heap.size #[.string wa.nm, .int .i64 wa.at_, .int .i64 wa.fr, .int .i64 wa.ar, .int .i64 wa.sz, .int .u32 wa.su, .int .i64 wa.me] 32) := by show Box _ _ _ _; rw [← hW10]; exact heap_alloc_new w9 _
  obtain ⟨b0, b1, b2, b3, b4, b5, b6, _⟩ := box7 HX10.out
  obtain ⟨d0, d1, d2, d3, d4, d5, d6, _⟩ := box7 HZ10.out
  obtain ⟨f0, f1, f2, f3, f4, f5, f6, _⟩ := box7 HY10.out
  have hrn : ∀ V, (binOp .neq 32 (aggM wa) (aggM wa)).run Tryd.prog V = .ok (.bool false) V := fun V => by rw [run_neqM wa wa V, eqM_refl]; rfl
  have hth2 : (th != th) = false := by cases th <;> rfl
  clear hb10
  -- Drop
  go_wp2_with fail
  refine (ixDrop_not W0.heap.size g A1 c1 ms m.nm W10 HI10.out (HAG.out)).mono ?_
  rintro e w11 ⟨rfl, hbel⟩
  have HT : Hid (IxTo W10 W0.heap.size g A1 ms.length c1 (outK LM.nm ms m.nm) w11 A1 c1) := by show IxTo _ _ _ _ _ _ _ _ _ _; rw [out_not HAG.out]; exact IxTo.stay HI10.out hbel
  have HI11 := Lib.hid HT.out.ix
  have HX11 := Lib.hid (HX10.out.ix HQ10.out HT.out)
  have HB11 := Lib.hid (HT.out.mod.belowIx HI10.out rfl HB10.out HB0.out.size)
  clear hbel hW10 d0 d1 d2 d3 d4 d5 d6 f0 f1 f2 f3 f4 f5 f6 hrn hth2
  clear b0 b1 b2 b3 b4 b5 b6
  obtain ⟨b0, b1, b2, b3, b4, b5, b6, _⟩ := box7 HX11.out
  obtain ⟨os, hos⟩ : ∃ os, outK LM.nm ms m.nm = os := ⟨_, rfl⟩
  have HOS := Lib.hid hos
  rw [hos] at HI11
  have hno : hasK LM.nm os m.nm = false := by rw [← hos]; exact has_out m.nm
  have HOL : Hid ((os.length : Int) = (l : Int)) := by
    show _ = _
    have := out_len HR.out m.nm
    rw [HAG.out, hos] at this
    simp at this
    have := HL.out
    omega
  have HOR := Lib.hid HI11.out.ris
  have HGZ := Lib.hid (ixGet_any W0.heap.size g A1 c1 os m.nm w11 HI11.out)
  rw [hno, getM_not hno, show aggM LM.zero = .agg #[.string ⟨#[]⟩, .int .i64 0, .int .i64 0, .int .i64 0, .int .i64 0, .int .u32 0, .int .i64 0] from rfl] at HGZ
  clear hos hno
  -- Get, behind it
  go_wp2_with fail
  refine HGZ.out.mono ?_
  rintro e w12 ⟨rfl, hbel⟩
  have HB12 := Lib.hid (HB11.out.trans (hbel.mono HB11.out.size))
  have HI12 := Lib.hid (HI11.out.below hbel rfl)
  have HX12 := Lib.hid (HX11.out.below hbel HX11.out.lt)
  clear hbel HGZ
  clear b0 b1 b2 b3 b4 b5 b6
  obtain ⟨W13, hW13⟩ : ∃ W13, W13 = w12.alloc (.cells #[.string ⟨#[]⟩, .int .i64 0, .int .i64 0, .int .i64 0, .int .i64 0, .int .u32 0, .int .i64 0] 32) := ⟨_, rfl⟩
  have hb13 : Below w12.heap.size w12 W13 := by rw [hW13]; exact (Below.refl _ w12).alloc (Nat.le_refl _) _
  have HB13 := Lib.hid (HB12.out.trans (hb13.mono HB12.out.size))
  have HI13 := Lib.hid (HI12.out.below hb13 rfl)
  have HX13 := Lib.hid (HX12.out.below hb13 HX12.out.lt)
  clear hb13
  -- All
  have HW13 := Lib.hid hW13
  clear hW13
  go_wp2_with fail
  rw [← HW13.out]
  refine (ixAll_any W0.heap.size g A1 c1 os W13 HI13.out).mono ?_
  rintro e w14 ⟨A8, c8, rfl, hown, hbel⟩
  have HB14 := Lib.hid (HB13.out.trans (hbel.mono HB13.out.size))
  have HCA := Lib.hid (own_cells7 hown)
  have HX14 := Lib.hid (HX13.out.below hbel HX13.out.lt)
  have HC14 := Lib.hid (hb0.out.below HB14.out (Nat.le_refl _))
  have hol := HOL.out
  have holn : os.length ≤ 200 := by omega
  
  have hdl : ((os.length : Int) != (l : Int)) = false := by rw [hol]; simp
  clear hbel hown
  go_wp2_with fail
  clear hol hdl
  go_loopg [21] os.length (fun gk i wr => ∃ k n : Nat, k + gk = os.length + 1 ∧ 1 ≤ k ∧ i = .int .i64 k ∧ wr = w14.drewN n)
  case atStart => exact ⟨1, 0, by omega, by omega, rfl, rfl⟩
  case round =>
    obtain ⟨k, n, hk, hk1, rfl, rfl⟩ := hrel
    by_cases h : k < os.length
    · obtain ⟨q, rfl⟩ : ∃ q, k = q + 1 := ⟨k - 1, by omega⟩
      obtain ⟨x, hx⟩ : ∃ x, os[q]? = some x := ⟨_, List.getElem?_eq_getElem (by omega)⟩
      obtain ⟨y, hy⟩ : ∃ y, os[q + 1]? = some y := ⟨_, List.getElem?_eq_getElem (by omega)⟩
      have hlt : Op.bytesLess x.nm.toList y.nm.toList = true := ris_get HOR.out hx hy (by omega)
      obtain ⟨b, o, rfl, hbB, hc⟩ := HCA.out (by rw [mems_len]; omega)
      obtain ⟨W, hW⟩ : ∃ W, w14.drewN n = W := ⟨_, rfl⟩
      have hbw : Below w14.heap.size w14 W := by rw [← hW]; exact Below.drewN (Below.refl _ _) _
      have p0 := (mem_at hbB hc hbw hx).c0
      have p1 := (mem_at hbB hc hbw hy).c0
      have hwq : IntKind.i64.wrap (((q + 1 : Nat) : Int) - 1) = (q : Int) := by rw [IntWalk.i64_in _ (by omega)]; omega
      have hwq2 : ((q : Int) + 1) - 1 = (q : Int) := by omega
      have hw1 : IntKind.i64.wrap (((q + 1 : Nat) : Int) + 1) = ((q + 1 : Nat) : Int) + 1 := IntWalk.i64_in _ (by omega)
      have hq0 : (q : Int) < (os.length : Int) := by omega
      have HW := Lib.hid hW
      rw [hW]
      clear hx hy hc hbw hW
      go_wp2_with fail
      go_quiet (fail)
      go_wp2
      go_roundg (gk - 1)
      case measure => omega
      case rel => exact ⟨q + 2, n + nq, by omega, by omega, by go_num, by rw [← HW.out]; exact drewN_drewN w14 n nq⟩
    · have hnk : ¬ (k : Int) < (os.length : Int) := by omega
      go_wp2
      clear hnk
      go_loopg [22, 23] l (fun gk kk i wr => ∃ i0 n : Nat, i0 + gk = l ∧ i = .int .i64 i0 ∧ kk = .int .i64 ((outK LM.nm (ms.take i0) m.nm).length : Nat) ∧ wr = w14.drewN n)
      case atStart => exact ⟨0, n, by omega, rfl, rfl, rfl⟩
      case round =>
        obtain ⟨i0, n2, hi, rfl, rfl, rfl⟩ := hrel
        obtain ⟨k0, hk0⟩ : ∃ k0, (outK LM.nm (ms.take i0) m.nm).length = k0 := ⟨_, rfl⟩
        have HK0 := Lib.hid hk0
        rw [hk0]
        clear hk0
        by_cases hil : i0 < l
        · obtain ⟨x, hx⟩ : ∃ x, ms[i0]? = some x := ⟨_, List.getElem?_eq_getElem (by have := HL.out; omega)⟩
          obtain ⟨b, o, rfl, hbB, hc⟩ := HC14.out (by rw [mems_len]; have := HL.out; omega)
          obtain ⟨W, hW⟩ : ∃ W, w14.drewN n2 = W := ⟨_, rfl⟩
          have hbw : Below w14.heap.size w14 W := by rw [← hW]; exact Below.drewN (Below.refl _ _) _
          obtain ⟨c0, c1, c2, c3, c4, c5, c6⟩ := mem_at hbB hc (hbw.mono HB14.out.size) hx
          have bx : W.cell? ⟨w.heap.size, 0, none⟩ = some (.string m.nm) := (HX14.out.below hbw HX14.out.lt).cell 0
          have hw1 : IntKind.i64.wrap ((i0 : Int) + 1) = (i0 : Int) + 1 := IntWalk.i64_in _ (by omega)
          have hw2 : IntKind.i64.wrap ((k0 : Int) + 1) = (k0 : Int) + 1 := by
            have h1 : k0 ≤ i0 := by rw [← HK0.out]; exact Nat.le_trans (List.length_filter_le _ _) (by rw [List.length_take]; omega)
            exact IntWalk.i64_in _ (by omega)
          have HXX := Lib.hid hx
          have HW := Lib.hid hW
          rw [hW]
          clear hc hW
          obtain ⟨q, hq⟩ : ∃ q, (x.nm.toList == m.nm.toList) = q := ⟨_, rfl⟩
          have HQ := Lib.hid hq
          cases q with
          | true =>
            have hq2 : x.nm.toList = m.nm.toList := by simpa using hq
            clear hx hbw
            go_wp2_with fail
            go_quiet (fail)
            go_wp2
            go_roundg (gk - 1)
            case measure => omega
            case rel => exact ⟨i0 + 1, n2 + nq, by omega, by go_num, by rw [out_skip HXX.out (nmEq_of HQ.out), HK0.out], by rw [← HW.out]; exact drewN_drewN w14 n2 nq⟩
          | false =>
            have hq2 : ¬ x.nm.toList = m.nm.toList := by simpa using hq
            have hot := out_take hx (nmEq_not HQ.out)
            rw [HK0.out, HOS.out] at hot
            have hk0l := (List.getElem?_eq_some_iff.1 hot.1).1
            obtain ⟨b8, o8, rfl, hbB8, hc8⟩ := HCA.out (by rw [mems_len]; omega)
            obtain ⟨e0, e1, e2, e3, e4, e5, e6⟩ := mem_at hbB8 hc8 hbw hot.1
            have HOT := Lib.hid hot.2
            have hk0i : (k0 : Int) < (os.length : Int) := by omega
            have hk0d : ¬ (os.length : Int) ≤ (k0 : Int) := by omega
            have hk0n : ¬ os.length ≤ k0 := by omega
            have hk0e : decide (os.length ≤ k0) = false := by simp; omega
            have hrn : ∀ V, (binOp .neq 32 (aggM x) (aggM x)).run Tryd.prog V = .ok (.bool false) V := fun V => by rw [run_neqM x x V, eqM_refl]; rfl
            have HWD := Lib.hid (fun r : Nat => show ((W.drewN r) : World) = w14.drewN (n2 + r) by rw [← HW.out]; exact drewN_drewN w14 n2 r)
            clear hx hbw hot hc8
            go_wp2_with fail
            go_quiet (fail)
            generalize nq = r1
            go_wp2_with fail
            go_quiet (fail)
            go_wp2
            go_roundg (gk - 1)
            case measure => omega
            case rel => exact ⟨i0 + 1, n2 + r1 + nq, by omega, by go_num, by rw [HOT.out, List.length_append, HK0.out]; go_num, by rw [HWD.out, Nat.add_assoc]⟩
        · obtain rfl : i0 = l := by omega
          have HKE : Hid (k0 = os.length) := by
            show _ = _
            rw [← HK0.out, List.take_of_length_le (by have := HL.out; omega), HOS.out]
          rw [HKE.out]
          go_wp2_with (go_at_call 8; refine (HLV.out _).mono ?_; rintro e w15 ⟨rfl, hbel⟩; have HB15 := Lib.hid ((Below.drewN HB14.out n2).trans (hbel.mono HB14.out.size)); clear hbel)
          go_ret
          exact ⟨rfl, HB15.out⟩

set_option maxRecDepth 100000 in
set_option maxHeartbeats 4000000 in
/-- Nothing is gone through: the members are too many, the name is too long, or both names are one. -/
theorem keeps_idle (A0 : Option Addr) (l c0 : Nat) (m : LM) (s : ByteArray) (w : World) (o : Bool)
    (HGR : Calls Tryd.prog 7 #[.slice A0 l c0] (w.alloc (.cells #[.string m.nm, .int .i64 m.at_, .int .i64 m.fr, .int .i64 m.ar, .int .i64 m.sz, .int .u32 m.su, .int .i64 m.me] 32)) fun e w' => e = .returned (.bool o) ∧ w.alloc (.cells #[.string m.nm, .int .i64 m.at_, .int .i64 m.fr, .int .i64 m.ar, .int .i64 m.sz, .int .u32 m.su, .int .i64 m.me] 32) = w')
    (h : o = true ∨ 200 < m.nm.size ∨ s = m.nm) :
    Calls Tryd.prog 6 #[.slice A0 l c0, aggM m, .string s] w fun e w' => e = .returned (.bool true) ∧ Below w.heap.size w w' := by
  obtain ⟨W0, hW0⟩ : ∃ W0, w.alloc (.cells #[.string m.nm, .int .i64 m.at_, .int .i64 m.fr, .int .i64 m.ar, .int .i64 m.sz, .int .u32 m.su, .int .i64 m.me] 32) = W0 := ⟨_, rfl⟩
  have HB0 : Hid (Below w.heap.size w W0) := by rw [← hW0]; exact (Below.refl _ w).alloc (Nat.le_refl _) _
  have HX0 : Hid (Box W0 w.heap.size #[.string m.nm, .int .i64 m.at_, .int .i64 m.fr, .int .i64 m.ar, .int .i64 m.sz, .int .u32 m.su, .int .i64 m.me] 32) := by rw [← hW0]; exact heap_alloc_new w _
  have HLV := Lib.hid (fun W => lives24_any W)
  obtain ⟨y0, y1, y2, y3, y4, y5, y6, _⟩ := box7 HX0.out
  rw [hW0] at HGR
  have HGG := Lib.hid HGR
  clear HGR
  cases o with
  | true =>
    clear h
    go_enter Tryd.func6, Tryd.ntmps6
    go_wp2_with (first | (go_at_call 7; refine HGG.out.mono ?_; rintro e w' ⟨rfl, rfl⟩; clear HGG) | (go_at_call 8; refine (HLV.out _).mono ?_; rintro e w5 ⟨rfl, hbel⟩; have HB5 := Lib.hid (HB0.out.trans (hbel.mono HB0.out.size)); clear hbel))
    go_ret
    exact ⟨rfl, HB5.out⟩
  | false =>
    by_cases hs : 200 < m.nm.size
    · have hds : decide (200 < (m.nm.size : Int)) = true := by simp; omega
      clear h hs
      go_enter Tryd.func6, Tryd.ntmps6
      go_wp2_with (first | (go_at_call 7; refine HGG.out.mono ?_; rintro e w' ⟨rfl, rfl⟩; clear HGG) | (go_at_call 8; refine (HLV.out _).mono ?_; rintro e w5 ⟨rfl, hbel⟩; have HB5 := Lib.hid (HB0.out.trans (hbel.mono HB0.out.size)); clear hbel))
      go_ret
      exact ⟨rfl, HB5.out⟩
    · have hds : decide (200 < (m.nm.size : Int)) = false := by simp; omega
      have he : s = m.nm := by
        rcases h with h | h | h
        · cases h
        · exact absurd h hs
        · exact h
      subst he
      clear h hs
      go_enter Tryd.func6, Tryd.ntmps6
      go_wp2_with (first | (go_at_call 7; refine HGG.out.mono ?_; rintro e w' ⟨rfl, rfl⟩; clear HGG) | (go_at_call 8; refine (HLV.out _).mono ?_; rintro e w5 ⟨rfl, hbel⟩; have HB5 := Lib.hid (HB0.out.trans (hbel.mono HB0.out.size)); clear hbel))
      go_ret
      exact ⟨rfl, HB5.out⟩
set_option maxRecDepth 100000 in
set_option maxHeartbeats 4000000 in
theorem keeps_none (A0 : Option Addr) (l c0 : Nat) (ms : List LM) (m : LM) (s : ByteArray) (w : World) (hl : ms.length = l) (hok : ∀ m ∈ ms, m.Ok) (hm2 : m.nm.size ≤ 200) (hne : s ≠ m.nm) (hb : Cells w w.heap.size A0 (memCells ms)) (hall : allB ms = false)
    (HGR : Calls Tryd.prog 7 #[.slice A0 l c0] (w.alloc (.cells #[.string m.nm, .int .i64 m.at_, .int .i64 m.fr, .int .i64 m.ar, .int .i64 m.sz, .int .u32 m.su, .int .i64 m.me] 32)) fun e w' => e = .returned (.bool false) ∧ w.alloc (.cells #[.string m.nm, .int .i64 m.at_, .int .i64 m.fr, .int .i64 m.ar, .int .i64 m.sz, .int .u32 m.su, .int .i64 m.me] 32) = w') :
    Calls Tryd.prog 6 #[.slice A0 l c0, aggM m, .string s] w fun e w' => e = .returned (.bool true) ∧ Below w.heap.size w w' := by
  obtain ⟨W0, hW0⟩ : ∃ W0, w.alloc (.cells #[.string m.nm, .int .i64 m.at_, .int .i64 m.fr, .int .i64 m.ar, .int .i64 m.sz, .int .u32 m.su, .int .i64 m.me] 32) = W0 := ⟨_, rfl⟩
  have HB0 : Hid (Below w.heap.size w W0) := by rw [← hW0]; exact (Below.refl _ w).alloc (Nat.le_refl _) _
  have HX0 : Hid (Box W0 w.heap.size #[.string m.nm, .int .i64 m.at_, .int .i64 m.fr, .int .i64 m.ar, .int .i64 m.sz, .int .u32 m.su, .int .i64 m.me] 32) := by rw [← hW0]; exact heap_alloc_new w _
  have HLV := Lib.hid (fun W => lives24_any W)
  obtain ⟨y0, y1, y2, y3, y4, y5, y6, _⟩ := box7 HX0.out
  rw [hW0] at HGR
  have HGG := Lib.hid HGR
  have HNW := Lib.hid (ixNew_bad A0 l c0 ms w.heap.size W0 hl hok (hb.below HB0.out (Nat.le_refl _)) HB0.out.size hall)
  have hds : decide (200 < (m.nm.size : Int)) = false := by simp; omega
  have hdn : (s.toList == m.nm.toList) = false := by rw [nmEq_dec]; exact decide_eq_false hne
  have hdn2 : ¬ s.toList = m.nm.toList := by simpa using hdn
  clear HGR hb hok hl hall hm2 hne
  go_enter Tryd.func6, Tryd.ntmps6
  go_wp2_with (first
    | (go_at_call 7; refine HGG.out.mono ?_; rintro e w' ⟨rfl, rfl⟩; clear HGG)
    | (go_at_call 9; refine HNW.out.mono ?_; rintro e w2 ⟨rfl, hbel⟩; have HB2 := Lib.hid (HB0.out.trans (hbel.mono HB0.out.size)); clear hbel HNW)
    | (go_at_call 8; refine (HLV.out _).mono ?_; rintro e w5 ⟨rfl, hbel⟩; have HB5 := Lib.hid (HB2.out.trans (hbel.mono HB2.out.size)); clear hbel))
  go_ret
  exact ⟨rfl, HB5.out⟩
theorem indexkeeps_any (A0 : Option Addr) (l c0 : Nat) (ms : List LM) (m : LM) (s : ByteArray) (w : World) (hl : ms.length = l)
    (hok : ∀ m ∈ ms, m.Ok) (hmo : m.Ok) (hb : Cells w w.heap.size A0 (memCells ms)) :
    Calls Tryd.prog 6 #[.slice A0 l c0, aggM m, .string s] w fun e w' => e = .returned (.bool true) ∧ Below w.heap.size w w' := by
  have hbw : Below w.heap.size w (w.alloc (.cells #[.string m.nm, .int .i64 m.at_, .int .i64 m.fr, .int .i64 m.ar, .int .i64 m.sz, .int .u32 m.su, .int .i64 m.me] 32)) := (Below.refl _ w).alloc (Nat.le_refl _) _
  have HGR := great24B_any A0 l c0 ms w.heap.size (w.alloc (.cells #[.string m.nm, .int .i64 m.at_, .int .i64 m.fr, .int .i64 m.ar, .int .i64 m.sz, .int .u32 m.su, .int .i64 m.me] 32)) hl (hb.below hbw (Nat.le_refl _))
  obtain ⟨o, ho⟩ : ∃ o, greatM ms = o := ⟨_, rfl⟩
  rw [ho] at HGR
  cases o with
  | true => exact keeps_idle A0 l c0 m s w true HGR (.inl rfl)
  | false =>
    by_cases h1 : 200 < m.nm.size
    · exact keeps_idle A0 l c0 m s w false HGR (.inr (.inl h1))
    · by_cases h2 : s = m.nm
      · exact keeps_idle A0 l c0 m s w false HGR (.inr (.inr h2))
      · cases hall : allB ms with
        | false => exact keeps_none A0 l c0 ms m s w hl hok (by omega) h2 hb hall HGR
        | true =>
          cases hb1 : m.B with
          | false =>
            have HP : ∀ (g : Nat) (A1 : Option Addr) (c1 base : Nat) (W : World), LX W base g A1 c1 ms → base ≤ W.heap.size → Calls Tryd.prog 22 #[.pointer (some ⟨g, 0, none⟩), aggM m] W fun e w' => ∃ r, e = .returned (.int .i64 r) ∧ (r == 0) = false ∧ ¬ r = 0 ∧ Below W.heap.size W w' := fun g _ _ _ W _ _ => (ixPut_bad g m W hmo.1 hb1).mono fun _ _ ⟨h1, h2⟩ => ⟨1, h1, rfl, by decide, h2⟩
            cases hag : hasK LM.nm ms m.nm with
            | true => exact keeps_not_there A0 l c0 ms m s w hl hok (by omega) h2 hb hall hag HP HGR
            | false => exact keeps_not_new A0 l c0 ms m s w hl hok (by omega) h2 hb hall hag HP HGR
          | true =>
            cases hrm : roomM ms m.nm with
            | false =>
              have HP : ∀ (g : Nat) (A1 : Option Addr) (c1 base : Nat) (W : World), LX W base g A1 c1 ms → base ≤ W.heap.size → Calls Tryd.prog 22 #[.pointer (some ⟨g, 0, none⟩), aggM m] W fun e w' => ∃ r, e = .returned (.int .i64 r) ∧ (r == 0) = false ∧ ¬ r = 0 ∧ Below W.heap.size W w' := fun g A1 c1 base W hx _ => (ixPut_full base g A1 c1 ms m W hx hmo.1 hb1 hrm).mono fun _ _ ⟨h1, h2⟩ => ⟨14, h1, rfl, by decide, h2⟩
              cases hag : hasK LM.nm ms m.nm with
              | true => exact keeps_not_there A0 l c0 ms m s w hl hok (by omega) h2 hb hall hag HP HGR
              | false => exact keeps_not_new A0 l c0 ms m s w hl hok (by omega) h2 hb hall hag HP HGR
            | true =>
              have HP : ∀ (g : Nat) (A1 : Option Addr) (c1 base : Nat) (W : World), LX W base g A1 c1 ms → base ≤ W.heap.size → Calls Tryd.prog 22 #[.pointer (some ⟨g, 0, none⟩), aggM m] W fun e w' => ∃ A' c', e = .returned (.int .i64 0) ∧ IxTo W base g A1 ms.length c1 (withK LM.nm ms m) w' A' c' := fun g A1 c1 base W hx hbs => ixPut_any base g A1 c1 ms m W hx hmo.1 hb1 hrm hbs
              cases hag : hasK LM.nm ms m.nm with
              | true => exact keeps_ok_there A0 l c0 ms m s w hl hok (by omega) h2 hb hall hag HP HGR
              | false => exact keeps_ok_new A0 l c0 ms m s w hl hok (by omega) h2 hb hall hag HP HGR
end Go.Proofs.YtjoifgeljjgflaaDoor
