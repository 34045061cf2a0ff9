/- Layer 9: Put. -/
import Derived.Test.YtgbbdgoleiolhaaGreatMgBlockBack41
import Derived.Test.YtgbbdgoleiolhaaGreatMgBlockBack38
import Derived.Test.YtgbbdgoleiolhaaGreatMgBlockBack23
import Derived.Test.YtgbbdgoleiolhaaGreatMgBlockBack34
import Derived.Test.YtgbbdgoleiolhaaGreatMgBlockBack20
import Derived.Test.YtgbbdgoleiolhaaGreatMgBlockBack25
import Derived.Test.YtgbbdgoleiolhaaGreatMgBlockBackSCrTk
import Derived.Test.YtgbbdgoleiolhaaGreatMgBlockBackSRnRx
import Derived.Test.YtgbbdgoleiolhaaGreatMgBlockBackSWeiRl
import Derived.Deep.RegionLaw
namespace Go.Proofs.YtgbbdgoleiolhaaGreat
open Go.RowKit Go.Shelf BitsP
attribute [local go_sem] Oper.semAt_some

theorem wr_own {W : World} {q base : Nat} {S : Nat → Prop} {L : List Bool} (h : WrS W q base S L) :
    ∃ v, W.cell? ⟨q, 0, none⟩ = some v ∧ S = orS (oneB q) (ownS v) ∧ ¬ ownS v q ∧ (∀ k, ownS v k → base ≤ k) ∧ ∀ k, S k → ∃ o, W.heap[k]? = some o ∧ o.isCells = true := by
  obtain ⟨whole, R, hsp, A, c, hb, hown, rfl⟩ := h
  refine ⟨_, hb.cells.1, rfl, own_ne hown hb (by decide), own_base hown, fun k hk => ?_⟩
  rcases hk with rfl | hk
  · exact ⟨_, hb, rfl⟩
  · rcases hown.2 with ⟨h1, _⟩ | ⟨g, cap, cur, h1, _, hh, _⟩
    · rw [h1] at hk; cases hk
    · rw [h1] at hk
      cases hk
      exact ⟨_, hh, rfl⟩
theorem wr_kept {W W' : World} {q base : Nat} {S : Nat → Prop} {L : List Bool} (h : WrS W q base S L) (hm : Mod S W W') : KeepsOthers W W' := by
  obtain ⟨v, _, _, _, _, hc⟩ := wr_own h
  exact ⟨hm.size, fun k o hk ho => hm.keep hk (fun hs => by
    obtain ⟨o', h1, h2⟩ := hc k hs
    rw [hk] at h1
    cases h1
    rw [ho] at h2
    cases h2)⟩
theorem kpb_wr {W W' : World} {n q base : Nat} {S S' : Nat → Prop} {L L' : List Bool} (h : WrS W q base S L) (h' : WrS W' q base S' L') (hm : Mod S W W') (hs : ∀ k, S' k → S k ∨ W.heap.size ≤ k) (hn : n ≤ W.heap.size) (hq : n ≤ q) (hb : n ≤ base) : KpB n q W W' := by
  obtain ⟨v, h1, h2, h3, h4, _⟩ := wr_own h
  obtain ⟨v', k1, k2, k3, _, _⟩ := wr_own h'
  have e1 : ownOf q W = v.ownBlock := by unfold ownOf; rw [h1]; rfl
  have e2 : ownOf q W' = v'.ownBlock := by unfold ownOf; rw [k1]; rfl
  refine ⟨hm.below (Below.refl n W) hn (fun k hk => ?_), fun k o hk _ hkq hno => hm.keep hk (fun hsk => ?_), fun k hk => ?_, hm.size⟩
  · rw [h2] at hk
    rcases hk with hk | hk
    · have : k = q := hk; omega
    · have := h4 k hk; omega
  · rw [h2] at hsk
    rcases hsk with hsk | hsk
    · exact hkq hsk
    · exact hno (e1.trans hsk)
  · rw [e2] at hk
    have hlt := h'.lt k (by rw [k2]; exact .inr hk)
    refine ⟨?_, .inr hlt⟩
    rcases hs k (by rw [k2]; exact .inr hk) with hsk | hsk
    · rw [h2] at hsk
      rcases hsk with hsk | hsk
      · have : k = q := hsk
        subst this
        exact absurd hk k3
      · exact .inl (e1.trans hsk)
    · exact .inr hsk
/-- What the first loop holds. -/
def ofI (N : Nat) (W1 : World) (pre : List (Nat × Nat)) (W : World) : Prop := NB W (N + 1) (oftP pre) ∧ Boxed W (N + 2) 53 (.slice (some ⟨N + 1, 0, none⟩) 19 19) ∧ Below (N + 1) W1 W
theorem ofI_own (N M : Nat) (W1 : World) (h1 : N + 1 ≤ W1.heap.size) (h2 : N + 1 ≤ M) : OwnFrom M (ofI N W1) := by
  have h : OwnS M (fun _ => False) (ofI N W1) := (ownS_cells (cs := fun pre => (nCs (oftP pre)).toArray) (fun h => h)).and ((ownS_cells (cs := fun _ => #[.slice (some ⟨N + 1, 0, none⟩) 19 19]) (fun h => h)).and (ownS_below h1 h2 (fun _ h => h.elim)))
  exact h.from
theorem ofI.alloc' {N : Nat} {W1 W : World} {pre : List (Nat × Nat)} (h : ofI N W1 pre W) (o : Obj) : ofI N W1 pre (W.alloc o) :=
  ⟨(Below.heap_alloc _ _ _ (Array.getElem?_eq_some_iff.1 h.1).1).trans h.1, h.2.1.alloc _, h.2.2.alloc (by have := h.2.1.lt; omega) o⟩
theorem ofI_step {N : Nat} {W1 W : World} {pre : List (Nat × Nat)} {t : Nat × Nat} {x : Nat} (h : ofI N W1 pre W) (hx : (oftP pre)[t.1]? = some x) :
    KeepsOthers W (W.setCell ⟨N + 1, t.1, none⟩ (.int .i64 ((x : Int) + 1))) ∧ KpB N (N + 2) W (W.setCell ⟨N + 1, t.1, none⟩ (.int .i64 ((x : Int) + 1))) ∧ ofI N W1 (pre ++ [t]) (W.setCell ⟨N + 1, t.1, none⟩ (.int .i64 ((x : Int) + 1))) := by
  have hg : (oftP pre).getD t.1 0 = x := by rw [List.getD, hx]; rfl
  have hs : (W.setCell ⟨N + 1, t.1, none⟩ (.int .i64 ((x : Int) + 1))).heap[N + 2]? = W.heap[N + 2]? := Below.heap_setCell _ _ _ _ (by show N + 2 ≠ N + 1; omega)
  refine ⟨KeepsOthers.setCell _ _ _, ⟨(Below.refl N W).setCell (p := ⟨N + 1, t.1, none⟩) (Nat.le_succ N) _, fun k o hk _ hkb hno => ?_, fun k hk => ?_, by simp [World.setCell]⟩, ?_, hs.trans h.2.1, h.2.2.setCell (p := ⟨N + 1, t.1, none⟩) (Nat.le_refl _) _⟩
  · refine (Below.heap_setCell _ _ _ k (fun e => hno ?_)).trans hk
    have e2 : k = N + 1 := e
    rw [ownOf_box h.2.1, e2]
    rfl
  · rw [ownOf_block hs] at hk
    exact ⟨.inl hk, .inl hk⟩
  · rw [oftP_snoc, hg]
    exact h.1.set _ _
theorem part_lt {ls : List Nat} (hv : ∀ x ∈ ls, x ≤ 15) {t : Nat × Nat} (h : t ∈ partsP ls 0) : t.1 < 19 := partsP_all hv t h
/-- What the rest of Put keeps: the writer, and what else there is. -/
structure PutI (S : Nat → Prop) (W6 : World) (q base : Nat) (S' : Nat → Prop) (M : List Bool) (X : World) : Prop where
  wr : WrS X q base S' M
  mod : Mod S W6 X
  own : ∀ k, S' k → S k ∨ W6.heap.size ≤ k
section
variable {S S' S2 : Nat → Prop} {W6 X Y : World} {q base : Nat} {M M2 : List Bool}
theorem PutI.next (h : PutI S W6 q base S' M X) (hw : WrS Y q base S2 M2) (hm : Mod S' X Y) (hs : ∀ k, S2 k → S' k ∨ X.heap.size ≤ k) : PutI S W6 q base S2 M2 Y :=
  ⟨hw, h.mod.trans hm h.own, fun k hk => by
    rcases hs k hk with h1 | h1
    · exact h.own k h1
    · exact .inr (Nat.le_trans h.mod.size h1)⟩
theorem PutI.below (h : PutI S W6 q base S' M X) (hb : Below X.heap.size X Y) : PutI S W6 q base S' M Y :=
  ⟨h.wr.keep (Mod.of_below hb) (fun _ _ h => h), h.mod.trans (Mod.of_below hb) (fun _ h => h.elim), h.own⟩
/-- Blocks that are no cells turn. -/
theorem PutI.grown (h : PutI S W6 q base S' M X) {row : Option Nat} (hg : X.grownBy Y row) (hr : ∀ r, row = some r → W6.heap.size ≤ r ∧ ∃ o : Obj, X.heap[r]? = some o ∧ o.isCells = false) : PutI S W6 q base S' M Y := by
  have hm : Mod (fun k => row = some k) X Y := ⟨hg.os, hg.tape, hg.output, hg.size, fun k hk hn => hg.block k hk (fun e => hn e.symm)⟩
  obtain ⟨v, _, _, _, _, hc⟩ := wr_own h.wr
  refine ⟨h.wr.keep hm (fun k hk e => ?_), h.mod.trans hm (fun k e => .inr (hr k e).1), h.own⟩
  obtain ⟨o, h1, h2⟩ := hc k hk
  obtain ⟨_, o', h3, h4⟩ := hr k e
  rw [h1] at h3
  cases h3
  rw [h2] at h4
  cases h4
end
theorem PutI.base_ {S S' : Nat → Prop} {w W6 X : World} {q base : Nat} {M : List Bool} (h : PutI S W6 q base S' M X) (hb : Below w.heap.size w W6) : PutI S w q base S' M X :=
  ⟨h.wr, ((Mod.of_below hb).mono (fun _ h => h.elim)).then_ h.mod, fun k hk => (h.own k hk).imp id (fun h1 => Nat.le_trans hb.size h1)⟩
theorem wr_ownOf {X : World} {q base k : Nat} {S : Nat → Prop} {M : List Bool} (h : WrS X q base S M) (hk : ownOf q X = some k) : S k := by
  obtain ⟨v, h1, h2, _⟩ := wr_own h
  unfold ownOf at hk
  rw [h1] at hk
  rw [h2]
  exact .inr hk
theorem wr_not {X : World} {q base k : Nat} {S : Nat → Prop} {M : List Bool} {cs : Array Value} {t : TypeId} (h : WrS X q base S M) (hk : X.heap[k]? = some (.cells cs t (0, 0))) (h1 : 27 ≠ t) (h2 : 5 ≠ t) : ¬ S k := by
  obtain ⟨whole, R, hsp, A, c, hb, hown, rfl⟩ := h
  rintro (hs | hs)
  · have e : k = q := hs
    subst e
    rw [show X.heap[k]? = _ from hb] at hk
    injection hk with hk
    injection hk with _ e2 _
    exact h1 e2
  · exact own_ne hown hk h2 hs
theorem cells_mod {W X : World} {S : Nat → Prop} {A : Option Addr} {xs : List Value} (h : Cells W W.heap.size A xs) (hm : Mod S W X) (hA : ∀ a, A = some a → ¬ S a.block) : Cells X X.heap.size A xs := fun hp => by
  obtain ⟨b, o, e, hb, hc⟩ := h hp
  exact ⟨b, o, e, Nat.lt_of_lt_of_le hb hm.size, fun j u hj => (World.cell?_of_block (a := ⟨b, o + j, none⟩) (hm.block b hb (hA _ e))).trans (hc j u hj)⟩
/-- What the second loop holds. -/
def prI (S : Nat → Prop) (W6 : World) (q base : Nat) (M : List Bool) (zs : List Int) (pre : List (Nat × Nat)) (X : World) : Prop := ∃ S', PutI S W6 q base S' (M ++ partsB zs pre) X
theorem prI_own (B : Nat) (S : Nat → Prop) (W6 : World) (q base : Nat) (M : List Bool) (zs : List Int) (hB : W6.heap.size ≤ B) : OwnFrom B (prI S W6 q base M zs) := fun _ _ _ _ ⟨S', h⟩ hg hr =>
  ⟨S', h.grown hg (fun r e => ⟨Nat.le_trans hB (hr r e).1, (hr r e).2⟩)⟩
theorem lnP_le {ps : List (Nat × Nat)} {k n : Nat} (h : (lnP ps)[k]? = some n) : n ≤ 15 := by
  have h1 := lensW_right (ns := oftP ps) (by rw [oftP_len]; omega) (n : Int) (List.mem_of_getElem? (zN_at h))
  have := (lenB_yes h1).2
  omega
theorem rnput_start {w W6 : World} {S : Nat → Prop} {q base : Nat} {L : List Bool} (h : WrS w q base S L) (hb : Below w.heap.size w W6) : PutI S W6 q base S L W6 :=
  ⟨h.keep (Mod.of_below hb) (fun _ _ h => h), Mod.refl _ _, fun _ h => .inl h⟩
theorem LCa.keep {w w' : World} {n g : Nat} {zs : List Int} {S : Nat → Prop} (h : LCa w n g zs) (hm : Mod S w w') (hS : ∀ k, S k → k < n) : LCa w' n g zs := by
  obtain ⟨A1, A2, A3, c1, c2, c3, m, hcb, hmx, h1, h2, h3, hg, ha⟩ := h
  have hgl := cb_lt hcb
  have key : ∀ {A : Option Addr} {xs : List Value}, (∀ a, A = some a → n ≤ a.block) → Cells w g A xs → Cells w' g A xs := fun hA hc hp => by
    obtain ⟨b, o, e, hb, hcc⟩ := hc hp
    have hnb := hA _ e
    exact ⟨b, o, e, hb, fun j u hj => (World.cell?_of_block (a := ⟨b, o + j, none⟩) (hm.block b (by omega) (fun hs => by have := hS b hs; dsimp only at hnb; omega))).trans (hcc j u hj)⟩
  exact ⟨A1, A2, A3, c1, c2, c3, m, hm.keep hcb (fun hs => by have := hS g hs; omega), hmx, key (fun a e => ha a (.inl e)) h1, key (fun a e => ha a (.inr (.inl e))) h2, key (fun a e => ha a (.inr (.inr e))) h3, hg, ha⟩
theorem parts_mem {ls : List Nat} : ∀ k p, ls.length - p ≤ k → ∀ t ∈ partsP ls p, ∃ j, j < ls.length ∧ t = (numP ls j, manyP ls j)
  | 0, p, h, t, ht => by rw [partsP_end (by omega)] at ht; cases ht
  | k + 1, p, h, t, ht => by
    by_cases hp : p < ls.length
    · have h1 := manyP_pos hp
      rw [partsP_step hp] at ht
      rcases List.mem_cons.1 ht with rfl | ht
      · exact ⟨p, hp, rfl⟩
      · exact parts_mem k _ (by omega) t ht
    · rw [partsP_end hp] at ht
      cases ht
theorem part_bd {ls : List Nat} (hv : ∀ x ∈ ls, x ≤ 15) {t : Nat × Nat} (h : t ∈ partsP ls 0) : t.1 < 19 ∧ (spanP t.1).1 ≤ t.2 ∧ t.2 ≤ ls.length ∧ t.2 - (spanP t.1).1 < 2 ^ (spanP t.1).2 := by
  obtain ⟨j, hj, rfl⟩ := parts_mem ls.length 0 (by omega) t h
  have h1 := numP_le hv j
  have h2 := many_le hj
  refine ⟨?_, span_le_many hv hj, ?_, more_lt hv hj⟩
  · show numP ls j < 19
    omega
  · show manyP ls j ≤ ls.length
    omega
theorem rnput_size (A : Option Addr) (l c : Nat) (q : Option Addr) (w : World) (h : l = 0 ∨ 320 < l) (hm : l ≤ 9223372036854775807) :
    Calls Tryz.prog 47 #[.pointer q, .slice A l c] w fun e w' => e = .returned (.int .i64 5) ∧ Below w.heap.size w w' := by
  by_cases h0 : l = 0
  · subst h0
    go_enter Tryz.func47, Tryz.ntmps47
    go_wp2
    go_ret
    exact ⟨rfl, (Below.refl _ w).alloc (Nat.le_refl _) _⟩
  · have t1 : decide ((320 : Int) < (l : Int)) = true := decide_eq_true (by omega)
    have t2 : ((l : Int) == 0) = false := by simp; omega
    clear h h0
    go_enter Tryz.func47, Tryz.ntmps47
    go_wp2
    go_ret
    exact ⟨rfl, (Below.refl _ w).alloc (Nat.le_refl _) _⟩
theorem rnput_bad (A : Option Addr) (l c : Nat) (zs : List Int) (q : Option Addr) (w : World) (hl : zs.length = l) (h1 : 1 ≤ l) (hm : l ≤ 320) (hb : Cells w w.heap.size A (zs.map ic)) (hr : zs.all lenB = false) :
    Calls Tryz.prog 47 #[.pointer q, .slice A l c] w fun e w' => e = .returned (.int .i64 1) ∧ Below w.heap.size w w' := by
  obtain ⟨W1, hW1⟩ : ∃ W1, w.alloc (.cells #[.pointer q] 30) = W1 := ⟨_, rfl⟩
  have HB1 : Hid (Below w.heap.size w W1) := by show Below _ _ _; rw [← hW1]; exact (Below.refl _ w).alloc (Nat.le_refl _) _
  have HR := Lib.hid (rightL_any A l c zs w.heap.size W1 hl (by omega) (hb.below HB1.out (Nat.le_refl _)))
  rw [hr] at HR
  have t1 : decide ((320 : Int) < (l : Int)) = false := decide_eq_false (by omega)
  have t2 : ((l : Int) == 0) = false := by simp; omega
  clear hb hl hr h1
  go_enter Tryz.func47, Tryz.ntmps47
  go_wp2_with (go_at_call 79; refine HR.out.mono ?_; rintro e w' ⟨rfl, rfl⟩)
  go_ret
  exact ⟨rfl, HB1.out⟩
theorem rnput_nil (A : Option Addr) (l c : Nat) (zs : List Int) (w : World) (hl : zs.length = l) (h1 : 1 ≤ l) (hm : l ≤ 320) (hb : Cells w w.heap.size A (zs.map ic)) :
    Calls Tryz.prog 47 #[.pointer none, .slice A l c] w fun e w' => e = .returned (.int .i64 1) ∧ Below w.heap.size w w' := by
  cases hr : zs.all lenB with
  | false => exact rnput_bad A l c zs _ w hl h1 hm hb hr
  | true =>
    obtain ⟨W1, hW1⟩ : ∃ W1, w.alloc (.cells #[.pointer none] 30) = W1 := ⟨_, rfl⟩
    have HB1 : Hid (Below w.heap.size w W1) := by show Below _ _ _; rw [← hW1]; exact (Below.refl _ w).alloc (Nat.le_refl _) _
    have HX1 : Hid (Boxed W1 w.heap.size 30 (.pointer none)) := by show Boxed _ _ _ _; rw [← hW1]; exact Boxed.new w _ _
    have c1 := HX1.out.cell
    have HR := Lib.hid (rightL_any A l c zs w.heap.size W1 hl (by omega) (hb.below HB1.out (Nat.le_refl _)))
    rw [hr] at HR
    have t1 : decide ((320 : Int) < (l : Int)) = false := decide_eq_false (by omega)
    have t2 : ((l : Int) == 0) = false := by simp; omega
    clear hb hl hr h1
    go_enter Tryz.func47, Tryz.ntmps47
    go_wp2_with (go_at_call 79; refine HR.out.mono ?_; rintro e w' ⟨rfl, rfl⟩)
    go_ret
    exact ⟨rfl, HB1.out⟩
set_option maxRecDepth 100000 in
set_option maxHeartbeats 4000000 in
theorem rnput_any (A : Option Addr) (l c : Nat) (ls : List Nat) (q base : Nat) (S : Nat → Prop) (L : List Bool) (w : World) (hl : ls.length = l) (h1l : 1 ≤ l) (hm : l ≤ 320) (hv : ∀ x ∈ ls, x ≤ 15) (hb : Cells w w.heap.size A (nCs ls))
    (hA : ∀ a, A = some a → ¬ S a.block) (hw : WrS w q base S L) (hL : L.length ≤ 100000000) (hbase : base ≤ w.heap.size) :
    Calls Tryz.prog 47 #[.pointer (some ⟨q, 0, none⟩), .slice A l c] w fun e w' => e = .returned (.int .i64 0) ∧ ∃ S', WrS w' q base S' (L ++ tabP ls) ∧ Mod S w w' ∧ ∀ k, S' k → S k ∨ w.heap.size ≤ k := by
  have HR := Lib.hid (rightL_any A l c (ls.map (fun n : Nat => (n : Int))) w.heap.size)
  have HL := Lib.hid hl
  have HC := Lib.hid hb
  have HV := Lib.hid hv
  have HW := Lib.hid hw
  have HA := Lib.hid hA
  have t1 : decide ((320 : Int) < (l : Int)) = false := decide_eq_false (by omega)
  have t2 : ((l : Int) == 0) = false := by simp; omega
  have HRW : Hid (∀ W, Below w.heap.size w W → _) := fun W (hW : Below w.heap.size w W) => HR.out W (by rw [List.length_map]; exact hl) (by omega) (by rw [nCs_ic]; exact (hb.below hW (Nat.le_refl _)))
  rw [all_right hv] at HRW
  clear hb hl hv hw hA HR
  refine (callsIn_wide (n := 6)).1 ?_
  refine callsIn_of_wp_marks Tryz.func47 rfl trivial ?_ rfl
  simp only [Tryz.ntmps47, List.size_toArray, List.length_cons, List.length_nil, Nat.reduceAdd, Nat.reduceSub, Array.replicate_succ, Array.replicate_zero, List.push_toArray, List.append_toArray, List.nil_append, List.cons_append]
  obtain ⟨W1, hW1⟩ : ∃ W1, w.alloc (.cells #[.pointer (some ⟨q, 0, none⟩)] 30) = W1 := ⟨_, rfl⟩
  have HB1 : Hid (Below w.heap.size w W1) := by show Below _ _ _; rw [← hW1]; exact (Below.refl _ w).alloc (Nat.le_refl _) _
  have HX1 : Hid (Boxed W1 w.heap.size 30 (.pointer (some ⟨q, 0, none⟩))) := by show Boxed _ _ _ _; rw [← hW1]; exact Boxed.new w _ _
  have HZ1 : Hid (W1.heap.size = w.heap.size + 1) := by show _ = _; rw [← hW1]; simp
  have c1 := HX1.out.cell
  obtain ⟨W2, hW2⟩ : ∃ W2, W1.alloc (.cells (madeCells #[.int .i64 0] 19) 3) = W2 := ⟨_, rfl⟩
  have hmk : (Instr.makeSlice 53 (.int .i64 19) (.int .i64 19)).run Tryz.prog W1 = .ok (.slice (some ⟨W1.heap.size, 0, none⟩) 19 19) W2 := by rw [← hW2]; exact wei_make 19 (by omega) W1
  have HN2 : Hid (NB W2 W1.heap.size (List.replicate 19 0)) := by show NB _ _ _; rw [← hW2]; exact wei_made W1 19
  have HB2 : Hid (Below W1.heap.size W1 W2) := by show Below _ _ _; rw [← hW2]; exact (Below.refl _ _).alloc (Nat.le_refl _) _
  have HZ2 : Hid (W2.heap.size = W1.heap.size + 1) := by show _ = _; rw [← hW2]; simp
  clear hW2
  gi_wp2_with (first
    | (refine ⟨trivial, ?_⟩; gi_at_call 79; refine (callsIn_wide.2 (HRW.out _ HB1.out)).mono ?_; rintro e w' ⟨rfl, rfl⟩)
    | (refine ⟨trivial, ?_⟩; gi_at_call 80; refine (callsIn_wide.2 (parts_any _ _ _ _)).mono ?_; rintro e w3 ⟨rfl, hw3⟩; have HW3 := Lib.hid hw3; clear hw3))
  obtain ⟨N, hN⟩ : ∃ N, w.heap.size = N := ⟨_, rfl⟩
  have HNN := Lib.hid hN
  have hz1 : W1.heap.size = N + 1 := by rw [HZ1.out, hN]
  have hz2 : W2.heap.size = N + 2 := by rw [HZ2.out, hz1]
  have hz3 : w3.heap.size = N + 4 := by rw [← HW3.out]; simp [hz2]
  have hb23 : Below (N + 2) W2 w3 := by rw [← HW3.out, ← hz2]; exact ((Below.refl _ W2).alloc (Nat.le_refl _) _).alloc (by simp) _
  have HB13 : Hid (Below (N + 1) W1 w3) := by
    have h := HB2.out
    rw [hz1] at h
    exact h.trans (hb23.mono (by omega))
  have HV3 : Hid (Boxed w3 (N + 2) 53 (.slice (some ⟨N + 1, 0, none⟩) 19 19)) := by
    show Boxed _ _ _ _
    rw [← HW3.out, ← hz2, ← hz1]
    exact (Boxed.new W2 _ _).alloc _
  have HC3 : Hid (Boxed w3 (N + 3) 53 (.slice A l c)) := by
    show Boxed _ _ _ _
    rw [← HW3.out]
    have h := Boxed.new (W2.alloc (.cells #[.slice (some ⟨W1.heap.size, 0, none⟩) 19 19] 53)) 53 (.slice A l c)
    rw [World.size_alloc, hz2] at h
    exact h
  have HN3 : Hid (NB w3 (N + 1) (List.replicate 19 0)) := by
    have h := HN2.out
    rw [hz1] at h
    exact h.below hb23 (by omega)
  have hAN : ∀ a, A = some a → a.block < N := fun a ha => by
    obtain ⟨b, o, hab, hbl, _⟩ := HC.out (by rw [nCs_len, HL.out]; omega)
    rw [ha] at hab
    cases hab
    rw [← hN]
    exact hbl
  have hb1 := HB1.out
  have HCW : Hid (∀ W, Below N w W → Cells W N A (nCs ls)) := fun W hW => by
    have h := HC.out
    rw [hN] at h
    exact h.below hW (Nat.le_refl _)
  have HBN : Hid (Below N w W1) := by rw [← hN]; exact hb1
  have HSEQ := Lib.hid (parts_seqS N (N + 2) (N + 3) A l c ls w3 HL.out hm HV.out ((HCW.out w3 (HBN.out.trans (HB13.out.mono (by omega)))).more (by omega)) (by omega) (by omega) (by omega) (fun a ha => by have := hAN a ha; omega)
    (fun k hk => by
      have e : N + 1 = k := by rw [ownOf_box HV3.out] at hk; simpa [Value.ownBlock] using hk
      exact ⟨by omega, by omega, fun a ha => by have := hAN a ha; omega⟩) HC3.out)
  have HAN := Lib.hid hAN
  have HZ3 := Lib.hid hz3
  have HX1N : Hid (Boxed W1 N 30 (.pointer (some ⟨q, 0, none⟩))) := by have h := HX1.out; rw [hN] at h; exact h
  have HS1 := Lib.hid hz1
  rw [hz2, hz1, hN, show N + 2 + 1 = N + 3 from rfl]
  clear hz1 hz2 hz3 hN hb1 hb23 hAN HW3 HB1 HB2 HX1 HZ1 HZ2 HN2 c1 HRW hmk hW1 HC
  refine wpIn_rangeFunc_ownH rfl (by omega) (gf := 110) (lb := #[.pointer (some ⟨N + 3, 0, none⟩)]) rfl trivial (enters_of Tryz.func110 (by kernel_rfl) rfl) HSEQ.out
    (fun h k => h.trans k) (fun W l o o' hl ho hc _ => KpB.putObj W l o o' (by have := HZ3.out; omega) (by have := HZ3.out; omega) ho hc) (Below.refl _ _) (fun _ => rfl)
    (fun (pre : List (PtIn ls)) W => ofI N W1 (pre.map (·.1)) W) (fun _ _ _ => False) (fun s => ofI_own N _ W1 (by rw [HS1.out]; exact Nat.le_refl _) (by have := HZ3.out; omega) _) (fun _ _ _ _ _ h _ _ => h)
    ⟨HN3.out, HV3.out, HB13.out⟩
    (fun (t : PtIn ls) a' W => ∃ Bx, W.heap[Bx]? = some (.cells #[.int .i64 (t.1.1 : Int), .int .i64 (t.1.2 : Int)] 156) ∧ a' = { tmps := (.pointer (some ⟨q, 0, none⟩) :: .slice A l c :: .pointer (some ⟨N, 0, none⟩) :: undef :: .int .i64 0 :: .pointer (some ⟨N + 2, 0, none⟩) :: .pointer (some ⟨Bx, 0, none⟩) :: undef :: undef :: undef :: undef :: undef :: undef :: undef :: undef :: undef :: .slice A l c :: .int .i64 (l : Int) :: .bool false :: .bool false :: .slice A l c :: .int .i64 (l : Int) :: .bool false :: .bool false :: .slice A l c :: .bool true :: .bool false :: .bool false :: .pointer (some ⟨q, 0, none⟩) :: .bool false :: .bool false :: .slice (some ⟨N + 1, 0, none⟩) 19 19 :: .slice A l c :: .func (.func 110) #[] #[.pointer (some ⟨N + 3, 0, none⟩)] :: ptV t.1 :: undef :: undef :: undef :: undef :: undef :: undef :: undef :: undef :: undef :: undef :: undef :: undef :: undef :: undef :: undef :: undef :: undef :: undef :: undef :: undef :: undef :: undef :: undef :: undef :: undef :: undef :: undef :: undef :: undef :: undef :: undef :: undef :: undef :: undef :: undef :: undef :: undef :: undef :: undef :: undef :: undef :: undef :: undef :: undef :: undef :: undef :: undef :: undef :: undef :: undef :: undef :: undef :: undef :: undef :: undef :: []).toArray, defers := [] })
    (fun t a' _ X Y row hs hg hr => by
      obtain ⟨Bx, h1, h2⟩ := hs
      refine ⟨Bx, (hg.block Bx (Array.getElem?_eq_some_iff.1 h1).1 (fun e => ?_)).trans h1, h2⟩
      obtain ⟨_, o, ho, hc⟩ := hr Bx e.symm
      rw [h1] at ho; cases ho; cases hc)
    ?assign ?body ?done ?stop
  case assign =>
    rintro gy pre ⟨⟨tn, td⟩, hmem⟩ W K hi hK
    simp only [ptV]
    gi_wp2
    exact hK _ _ ((KeepsOthers.alloc _ _).from _) (kpb_alloc _ (by have := hi.2.1.lt; omega) hi.2.1.lt) (hi.alloc' _) ⟨W.heap.size, heap_alloc_new W _, rfl⟩
  case body =>
    rintro gy pre ⟨⟨tn, td⟩, hmem⟩ a' W hlb ⟨r, hr⟩ hi ⟨Bx, hx, rfl⟩ hlt
    have hv := hi.2.1
    have c5 := hv.cell
    have k0 : W.cell? ⟨Bx, 0, none⟩ = some (.int .i64 (tn : Int)) := cell_of_row W _ 0 _ _ _ hx
    have hk := part_lt HV.out hmem
    obtain ⟨x, hx2⟩ : ∃ x, (oftP (pre.map (·.1)))[tn]? = some x := ⟨_, List.getElem?_eq_getElem (by rw [oftP_len]; exact hk)⟩
    have k1 : W.cell? ⟨N + 1, tn, none⟩ = some (.int .i64 (x : Int)) := NB.cell hi.1 hx2
    have hf : W.frozen? ⟨N + 1, tn, none⟩ = false := NB.free hi.1
    have hxb : x ≤ 320 := by
      have h1 := oftP_le _ x (List.mem_of_getElem? hx2)
      rw [List.length_map] at h1
      omega
    have HI := Lib.hid (ofI_step (t := (tn, td)) hi hx2)
    clear hi hx hv hx2
    simp only [ptV]
    gi_wp2
    obtain ⟨h1, h2, h3⟩ := HI.out
    refine ⟨h1.from _, h2, ?_⟩
    show ofI N W1 ((pre ++ [(⟨(tn, td), hmem⟩ : PtIn ls)]).map (·.1)) _
    rw [List.map_append]
    exact h3
  case done =>
    rintro D ys W hD hS hi hK
    rw [hS] at hi
    have HI := Lib.hid hi
    have HK := Lib.hid hK
    have c5 := hi.2.1.cell
    clear hi hK hS HSEQ HN3 HV3 HC3 HB13
    obtain ⟨ps, hps⟩ : ∃ ps, partsP ls 0 = ps := ⟨_, rfl⟩
    have HPS := Lib.hid hps
    rw [hps] at HI
    have HRT : Hid (caR (zN (lnP ps)) = true) := by
      show _ = _
      obtain ⟨t, ht⟩ := partsP_ne (ls := ls) (by rw [HL.out]; omega)
      have h19 := part_lt HV.out ht
      rw [hps] at ht
      exact lnP_right ht h19
    have hpl : ps.length ≤ 320 := by
      rw [← hps]
      have := partsP_len ls ls.length 0 (by omega)
      have := HL.out
      omega
    clear hps
    have HIT := HI.out
    have hln := lengths_ok (some ⟨N + 1, 0, none⟩) 19 19 (oftP ps) W.heap.size W (oftP_len ps) (by omega) (by
      have h := Cells.of_own (HIT.1.own (base := N + 1) (Nat.le_refl _) (by rw [oftP_len]; decide))
      exact h) (Nat.le_refl _) (fun n hn => by have := oftP_le ps n hn; omega)
    have HLN := Lib.hid hln
    have hwl : IntKind.u32.wrap (l : Int) = (l : Int) := IntWalk.u32_in _ (by omega)
    have hln2 := HNN.out
    have hwN : N + 2 < W.heap.size := HIT.2.1.lt
    have HBW : Hid (Below N w W) := HBN.out.trans (HIT.2.2.mono (Nat.le_succ N))
    have HXW : Hid (Boxed W N 30 (.pointer (some ⟨q, 0, none⟩))) := (HIT.2.2.block N (by omega)).trans HX1N.out
    clear HIT hln HX1N HI
    gi_wp2_with (first
      | (refine ⟨trivial, ?_⟩; gi_at_call 46; refine (callsIn_wide.2 HLN.out).mono ?_; rintro e w4 ⟨A4, k4, rfl, hown4, hb4⟩; have HO4 := Lib.hid hown4; have HB4 := Lib.hid hb4; clear hown4 hb4)
      | (refine ⟨trivial, ?_⟩; gi_at_call 48; refine (callsIn_wide.2 (new_low A4 19 k4 (zN (lnP ps)) w4.heap.size w4 (by rw [zN_len, lnP_len]) (by omega) (by rw [show (zN (lnP ps)).map ic = nCs (lnP ps) from nCs_ic _]; exact Cells.of_own HO4.out) (Nat.le_refl _) HRT.out)).mono ?_; rintro e w5 ⟨g, rfl, hlc, hb5⟩; have HLC := Lib.hid hlc; have HB5 := Lib.hid hb5; clear hlc hb5; obtain ⟨W6, hW6⟩ : ∃ W6, w5.alloc (.cells #[.pointer (some ⟨g, 0, none⟩)] 56) = W6 := ⟨_, rfl⟩; have hB56 : Below w5.heap.size w5 W6 := (by rw [← hW6]; exact (Below.refl _ _).alloc (Nat.le_refl _) _); have HX9 : Hid (Boxed W6 w5.heap.size 56 (.pointer (some ⟨g, 0, none⟩))) := (by show Boxed _ _ _ _; rw [← hW6]; exact Boxed.new w5 _ _); have HZ6 : Hid (W6.heap.size = w5.heap.size + 1) := (by show _ = _; rw [← hW6]; simp); have HS45 : Hid (W.heap.size ≤ w4.heap.size ∧ w4.heap.size ≤ w5.heap.size) := ⟨HB4.out.size, HB5.out.size⟩; have HBX : Hid (Below W.heap.size W W6) := (HB4.out.trans (HB5.out.mono HB4.out.size)).trans (hB56.mono (Nat.le_trans HB4.out.size HB5.out.size)); have HX6 : Hid (Boxed W6 N 30 (.pointer (some ⟨q, 0, none⟩))) := (HBX.out.block N (by omega)).trans HXW.out; have HLC6 := Lib.hid (HLC.out.keep (Mod.of_below hB56) (fun _ h => h.elim)); have HO6 := Lib.hid (own_keep (own_keep HO4.out (Mod.of_below HB5.out) (fun _ _ h => h)) (Mod.of_below hB56) (fun _ _ h => h)); have HK6 := Lib.hid ((HBX.out.block D (Array.getElem?_eq_some_iff.1 HK.out).1).trans HK.out); have HBW6 : Hid (Below N w W6) := HBW.out.trans (HBX.out.mono (by omega)); have HPI := Lib.hid (rnput_start HW.out (by rw [HNN.out]; exact HBW6.out)); have c2 := HX6.out.cell; have HP6 := Lib.hid (wput_any q base S L (l : Int) 9 W6 HPI.out.wr (by omega) (by have := HBW6.out.size; omega) (by omega) (by omega) (by omega) (by omega)); clear hB56 HLC HB4 HB5 HO4 c5)
      | (refine ⟨trivial, ?_⟩; gi_at_call 21; refine (callsIn_wide.2 HP6.out).mono ?_; rintro e w7 ⟨rfl, S7, hw7, hm7, hs7⟩; rw [show cnt 9 = 9 from rfl, Int.toNat_natCast] at hw7; have HP7 := Lib.hid (HPI.out.next hw7 hm7 hs7); clear hw7 hm7 hs7 HP6 c2))
    obtain ⟨L1, hL1⟩ : ∃ L1, L ++ bitsOf l 9 = L1 := ⟨_, rfl⟩
    have HL1 := Lib.hid hL1
    have hl1 : L1.length ≤ 100000009 := by rw [← hL1, List.length_append, bitsOf_length]; omega
    rw [hL1] at HP7
    obtain ⟨zs, hzs⟩ : ∃ zs, zN (lnP ps) = zs := ⟨_, rfl⟩
    have HZS := Lib.hid hzs
    rw [hzs] at HRT HLC6
    clear hL1 hzs
    have HSN : Hid (∀ k, S k → k < N) := fun k hk => by have := HW.out.lt k hk; omega
    have hz6 := HZ6.out
    have hs45 := HS45.out
    gi_loopw [59] (fun i wr => ∃ (k : Nat) (S' : Nat → Prop), k ≤ 19 ∧ i = .int .i64 (k : Int) ∧ PutI S W6 q base S' (L1 ++ lensB ((lnP ps).take k)) wr) (fun i _ => 19 - (intOf i).toNat)
    case atStart => exact ⟨0, S7, by omega, rfl, by simpa [lensB] using HP7.out⟩
    case round =>
      obtain ⟨k, S8, hk, rfl, hpi⟩ := hrel
      have HPI8 := Lib.hid hpi
      clear hpi HP7 HPI
      have c2 : wr.cell? ⟨N, 0, none⟩ = some (.pointer (some ⟨q, 0, none⟩)) := Boxed.cell (HPI8.out.mod.keep HX6.out (fun h => by have := HSN.out N h; omega))
      by_cases hk19 : k < 19
      · obtain ⟨n, hn⟩ : ∃ n, (lnP ps)[k]? = some n := ⟨_, List.getElem?_eq_getElem (by rw [lnP_len]; exact hk19)⟩
        have hn15 : n ≤ 15 := lnP_le hn
        have hO := Cells.of_own (own_keep HO6.out HPI8.out.mod (fun j hj hs => by have := HSN.out j hs; have := own_base HO6.out j hj; omega))
        obtain ⟨b, o, rfl, hbB, hc⟩ := hO (by rw [nCs_len]; show 0 < (lnP ps).length; rw [lnP_len]; omega)
        have c0 : wr.cell? ⟨b, o + k, none⟩ = some (.int .i64 (n : Int)) := hc k _ (nCs_at hn)
        have hwn : IntKind.u32.wrap (n : Int) = (n : Int) := IntWalk.u32_in _ (by omega)
        have hlb : (lensB ((lnP ps).take k)).length ≤ 76 := by rw [lensB_len, List.length_take]; omega
        have HP8 := Lib.hid (wput_any q base S8 (L1 ++ lensB ((lnP ps).take k)) (n : Int) 4 wr HPI8.out.wr (by rw [List.length_append]; omega) (by have := HPI8.out.mod.size; have := HBW6.out.size; omega) (by omega) (by omega) (by omega) (by omega))
        rw [show cnt 4 = 4 from rfl, Int.toNat_natCast, List.append_assoc, ← lensB_up hn] at HP8
        clear hc hn hO
        gi_wp2_with (refine ⟨trivial, ?_⟩; gi_at_call 21; refine (callsIn_wide.2 HP8.out).mono ?_; rintro e w9 ⟨rfl, S9, hw9, hm9, hs9⟩; have HP9 := Lib.hid (HPI8.out.next hw9 hm9 hs9); clear hw9 hm9 hs9)
        exact ⟨⟨k + 1, S9, by omega, by go_num, HP9.out⟩, by simp [intOf]; omega⟩
      · obtain rfl : k = 19 := by omega
        rw [show (lnP ps).take 19 = lnP ps from List.take_of_length_le (by rw [lnP_len]; exact Nat.le_refl _)] at HPI8
        obtain ⟨wq, hwq⟩ : ∃ wq, wq = wr := ⟨_, rfl⟩
        subst hwq
        gi_wp2_with (refine ⟨trivial, ?_⟩; gi_at_call 80; refine (callsIn_wide.2 (parts_any _ _ _ _)).mono ?_; rintro e w8 ⟨rfl, hw8⟩; have HW8 := Lib.hid hw8; clear hw8)
        obtain ⟨bx, hbx⟩ : ∃ bx, wq.heap.size = bx := ⟨_, rfl⟩
        have hz8 : w8.heap.size = bx + 1 := by rw [← HW8.out, ← hbx]; simp
        have hb8 : Below wq.heap.size wq w8 := by rw [← HW8.out]; exact (Below.refl _ _).alloc (Nat.le_refl _) _
        have HX8 : Hid (Boxed w8 bx 53 (.slice A l c)) := by show Boxed _ _ _ _; rw [← HW8.out, ← hbx]; exact Boxed.new wq _ _
        have HP8 := Lib.hid (HPI8.out.below hb8)
        obtain ⟨M2, hM2⟩ : ∃ M2, L1 ++ lensB (lnP ps) = M2 := ⟨_, rfl⟩
        have HM2 := Lib.hid hM2
        have hm2 : M2.length ≤ 100000085 := by rw [← hM2, List.length_append, lensB_len, lnP_len]; omega
        rw [hM2] at HP8
        have hq8 : q < bx := by rw [← hbx]; exact HPI8.out.wr.lt q (by obtain ⟨v, _, h2, _⟩ := wr_own HPI8.out.wr; rw [h2]; exact .inl rfl)
        have hsq : S q := by obtain ⟨v, _, h2, _⟩ := wr_own HW.out; rw [h2]; exact .inl rfl
        have h68 : W6.heap.size ≤ bx := by rw [← hbx]; exact HPI8.out.mod.size
        have hSEQ := parts_seqS 0 q bx A l c ls w8 HL.out hm HV.out (cells_mod ((HCW.out W6 HBW6.out).more (by have := HBW6.out.size; omega)) HP8.out.mod HA.out) (Nat.zero_le _) (by omega) (by omega)
          (fun a ha e => HA.out a ha (e ▸ hsq)) (fun k hk => by
            have h1 := wr_ownOf HP8.out.wr hk
            have h2 := HPI8.out.wr.lt k h1
            refine ⟨by omega, by omega, fun a ha e => ?_⟩
            rcases HPI8.out.own k h1 with h3 | h3
            · exact HA.out a ha (e ▸ h3)
            · have := HAN.out a ha
              have := HBW6.out.size
              omega) HX8.out
        have HSEQ := Lib.hid hSEQ
        have HZ8 := Lib.hid hz8
        rw [hbx]
        clear hSEQ hz8 hb8 hM2 hbx HW8 HPI8 HX8 hq8
        refine wpIn_rangeFunc_ownH rfl (by omega) (gf := 110) (lb := #[.pointer (some ⟨bx, 0, none⟩)]) rfl trivial (enters_of Tryz.func110 (by kernel_rfl) rfl) HSEQ.out
          (fun h k => h.trans k) (fun W l o o' hl ho hc _ => KpB.putObj W l o o' (Nat.zero_le _) (by have := HZ8.out; have := HSN.out q hsq; omega) ho hc) (Below.refl _ _) (fun _ => rfl)
          (fun (pre : List (PtIn ls)) X => prI S W6 q base M2 zs (pre.map (·.1)) X) (fun _ _ _ => False) (fun s => prI_own _ S W6 q base M2 zs (by have := HZ8.out; omega) _) (fun _ _ _ _ _ h _ _ => h)
          ⟨S8, by simpa [partsB] using HP8.out⟩
          (fun (t : PtIn ls) a' W => ∃ Bx, W.heap[Bx]? = some (.cells #[.int .i64 (t.1.1 : Int), .int .i64 (t.1.2 : Int)] 156) ∧ a' = { tmps := (.pointer (some ⟨q, 0, none⟩) :: .slice A l c :: .pointer (some ⟨N, 0, none⟩) :: undef :: .int .i64 0 :: .pointer (some ⟨N + 2, 0, none⟩) :: undef :: .slice A4 19 k4 :: .int .i64 0 :: .pointer (some ⟨w5.heap.size, 0, none⟩) :: .int .i64 0 :: undef :: u12 :: .pointer (some ⟨Bx, 0, none⟩) :: undef :: undef :: .slice A l c :: .int .i64 (l : Int) :: .bool false :: .bool false :: .slice A l c :: .int .i64 (l : Int) :: .bool false :: .bool false :: .slice A l c :: .bool true :: .bool false :: .bool false :: .pointer (some ⟨q, 0, none⟩) :: .bool false :: .bool false :: .slice (some ⟨N + 1, 0, none⟩) 19 19 :: .slice A l c :: .func (.func 110) #[] #[.pointer (some ⟨N + 3, 0, none⟩)] :: undef :: undef :: undef :: undef :: undef :: undef :: undef :: undef :: .tuple #[.slice A4 19 k4, .int .i64 0] :: .slice (some ⟨N + 1, 0, none⟩) 19 19 :: .tuple #[.slice A4 19 k4, .int .i64 0] :: .slice A4 19 k4 :: .int .i64 0 :: .tuple #[.pointer (some ⟨g, 0, none⟩), .int .i64 0] :: .slice A4 19 k4 :: .tuple #[.pointer (some ⟨g, 0, none⟩), .int .i64 0] :: .pointer (some ⟨g, 0, none⟩) :: .int .i64 0 :: .pointer (some ⟨q, 0, none⟩) :: .slice A l c :: .int .i64 (l : Int) :: .int .u32 (l : Int) :: .tuple #[] :: .slice A4 19 k4 :: .int .i64 19 :: .int .i64 19 :: .bool false :: u61 :: u62 :: u63 :: u64 :: u65 :: u66 :: u67 :: .slice A l c :: .func (.func 110) #[] #[.pointer (some ⟨bx, 0, none⟩)] :: ptV t.1 :: undef :: undef :: undef :: undef :: undef :: undef :: undef :: undef :: undef :: undef :: undef :: undef :: undef :: undef :: undef :: undef :: undef :: undef :: undef :: []).toArray, defers := [] })
          (fun t a' _ X Y row hs hg hr => by
            obtain ⟨Bx, h1, h2⟩ := hs
            refine ⟨Bx, (hg.block Bx (Array.getElem?_eq_some_iff.1 h1).1 (fun e => ?_)).trans h1, h2⟩
            obtain ⟨_, o, ho, hc⟩ := hr Bx e.symm
            rw [h1] at ho; cases ho; cases hc)
          ?assign2 ?body2 ?done2 ?stop2
        case assign2 =>
          rintro gy pre ⟨⟨tn, td⟩, hmem⟩ W K ⟨S9, h9⟩ hK
          have hqW : q < W.heap.size := h9.wr.lt q (by obtain ⟨v, _, h2, _⟩ := wr_own h9.wr; rw [h2]; exact .inl rfl)
          simp only [ptV]
          gi_wp2
          exact hK _ _ ((KeepsOthers.alloc _ _).from _) (kpb_alloc _ (Nat.zero_le _) hqW) ⟨S9, h9.below ((Below.refl _ _).alloc (Nat.le_refl _) _)⟩ ⟨W.heap.size, heap_alloc_new W _, rfl⟩
        case body2 =>
          rintro gy pre ⟨⟨tn, td⟩, hmem⟩ a' W hlb ⟨r, hr⟩ ⟨S9, h9⟩ ⟨Bx, hx, rfl⟩ hlt
          obtain ⟨ha19, ha1, ha2, ha3⟩ := part_bd HV.out hmem
          have hsp := spanP_le tn
          have HSP := Lib.hid (fun V => span_any tn V)
          have HBT : Hid (partB zs (tn, td) = symB zs (tn : Int) ++ bitsOf (td - (spanP tn).1) (spanP tn).2) := rfl
          dsimp only at ha19 ha1 ha2 ha3
          obtain ⟨⟨sa, sb⟩, hab⟩ : ∃ ab, spanP tn = ab := ⟨_, rfl⟩
          rw [hab] at ha1 ha3 hsp HSP HBT
          dsimp only at ha1 ha3 hsp HSP HBT
          obtain ⟨dm, hdm⟩ : ∃ dm, td - sa = dm := ⟨_, rfl⟩
          have hdm2 : (td : Int) - (sa : Int) = (dm : Int) := by omega
          rw [hdm] at HBT
          have hdl : dm ≤ 320 := by have := HL.out; omega
          have hwd : IntKind.u32.wrap (dm : Int) = (dm : Int) := IntWalk.u32_in _ (by omega)
          have c9 : W.cell? ⟨w5.heap.size, 0, none⟩ = some (.pointer (some ⟨g, 0, none⟩)) := Boxed.cell (h9.mod.keep HX9.out (fun h => by have := HSN.out _ h; omega))
          have c2 : W.cell? ⟨N, 0, none⟩ = some (.pointer (some ⟨q, 0, none⟩)) := Boxed.cell (h9.mod.keep HX6.out (fun h => by have := HSN.out N h; omega))
          have k0 : W.cell? ⟨Bx, 0, none⟩ = some (.int .i64 (tn : Int)) := cell_of_row W _ 0 _ _ _ hx
          have hml : (M2 ++ partsB zs (pre.map (·.1))).length ≤ 100010000 := by
            have h1 := partsB_len HRT.out (pre.map (·.1))
            rw [List.length_map] at h1
            rw [List.length_append]
            omega
          have hbW : base ≤ W.heap.size := by have := h9.mod.size; have := HBW6.out.size; omega
          have HP8 := Lib.hid (put8_any g q base zs S9 _ (tn : Int) W HRT.out (HLC6.out.keep h9.mod (fun k hk => by have := HSN.out k hk; omega)).lc h9.wr (by omega) hbW)
          have HSL := symB_len HRT.out (tn : Int)
          have H9 := Lib.hid h9
          have HX := Lib.hid hx
          clear h9 hx hab hdm ha1 ha3
          simp only [ptV]
          gi_wp2_with (first
            | (refine ⟨trivial, ?_⟩; gi_at_call 26; refine (CallsIn.inRound gy (callsIn_wide.2 HP8.out)).mono ?_; rintro e X2 ⟨rfl, S2, hw2, hm2, hs2⟩; have hp2 := H9.out.next hw2 hm2 hs2; have hx2 := hm2.keep HX.out (wr_not H9.out.wr HX.out (by decide) (by decide)); have HK2 := Lib.hid (kpb_wr H9.out.wr hw2 hm2 hs2 (Nat.zero_le _) (Nat.zero_le _) (Nat.zero_le _)); have HO2 := Lib.hid (wr_kept H9.out.wr hm2); have k0' : X2.cell? ⟨Bx, 0, none⟩ = some (.int .i64 (tn : Int)) := cell_of_row X2 _ 0 _ _ _ hx2; have k1' : X2.cell? ⟨Bx, 1, none⟩ = some (.int .i64 (td : Int)) := cell_of_row X2 _ 1 _ _ _ hx2; have c2' : X2.cell? ⟨N, 0, none⟩ = some (.pointer (some ⟨q, 0, none⟩)) := Boxed.cell (hp2.mod.keep HX6.out (fun h => by have := HSN.out N h; omega)); have HWP := Lib.hid (wput_any q base S2 _ (dm : Int) (sb : Int) X2 hw2 (by rw [List.length_append]; omega) (by have := hm2.size; omega) (by omega) (by omega) (by omega) (by omega)); rw [cnt_nat (k := sb) (by omega), Int.toNat_natCast, List.append_assoc, ← HBT.out, List.append_assoc] at HWP; have HP2 := Lib.hid hp2; clear hw2 hm2 hs2 hp2 hx2 c2 c9 k0)
            | (refine ⟨trivial, ?_⟩; gi_at_call 81; refine (CallsIn.inRound gy (callsIn_wide.2 (HSP.out _))).mono ?_; rintro e w' ⟨rfl, rfl⟩)
            | (refine ⟨trivial, ?_⟩; gi_at_call 21; refine (CallsIn.inRound gy (callsIn_wide.2 HWP.out)).mono ?_; rintro e X3 ⟨rfl, S3, hw3, hm3, hs3⟩; have HP3 := Lib.hid (HP2.out.next hw3 hm3 hs3); have HK3 := Lib.hid (HK2.out.trans (kpb_wr HP2.out.wr hw3 hm3 hs3 (Nat.zero_le _) (Nat.zero_le _) (Nat.zero_le _))); have HO3 := Lib.hid (HO2.out.trans (wr_kept HP2.out.wr hm3)); clear hw3 hm3 hs3))
          refine ⟨HO3.out.from _, HK3.out, S3, ?_⟩
          rw [List.map_append, List.map_cons, List.map_nil, partsB_snoc]
          exact HP3.out
        case stop2 =>
          rintro D c pre W _ _ h _
          exact h.elim
        case done2 =>
          rintro D2 ys2 X hD2 hS2 ⟨S9, h9⟩ hK2
          rw [hS2, HPS.out] at h9
          have H9 := Lib.hid h9
          have HK2 := Lib.hid hK2
          have HKD := Lib.hid (h9.mod.keep HK6.out (fun h => by have := HSN.out _ h; have := HZ3.out; omega))
          clear h9 hS2 hK2
          have hd6 := (Array.getElem?_eq_some_iff.1 HK6.out).1
          have hne : D ≠ D2 := by have := HZ8.out; omega
          gi_wp2
          refine ⟨by simp, .inl ⟨_, _, rfl, run_takeDeferred HK2.out, ⟨by simp, .inl ⟨_, _, rfl, run_takeDeferred ((World.putObj_heap_other hne).trans HKD.out), ?_⟩⟩⟩⟩
          refine ⟨_, results_tmp rfl _ _ _, rfl, S9, ?_⟩
          have hb0 : Below w.heap.size w W6 := by rw [HNN.out]; exact HBW6.out
          have h1 := H9.out.base_ hb0
          have h2 := h1.grown (grownBy_putObj' X D2 (.deferred none)) (fun r e => by cases e; exact ⟨by have := HZ8.out; have := HBW6.out.size; omega, _, HK2.out, rfl⟩)
          have h3 := h2.grown (grownBy_putObj' _ D (.deferred none)) (fun r e => by cases e; exact ⟨by have := HZ3.out; omega, _, (World.putObj_heap_other hne).trans HKD.out, rfl⟩)
          refine ⟨?_, h3.mod, fun k hk => by rw [← HNN.out]; exact h3.own k hk⟩
          have h4 := h3.wr
          rw [← HM2.out, ← HL1.out] at h4
          rw [tabP, HL.out, HPS.out, HZS.out, ← List.append_assoc, ← List.append_assoc]
          exact h4
  case stop =>
    rintro D c pre W _ _ h _
    exact h.elim
end Go.Proofs.YtgbbdgoleiolhaaGreat
/- Layer 9, plainly: what is put is taken, and just that. -/
namespace Go.Proofs.YtgbbdgoleiolhaaGreat
open BitsP

theorem numA_bits {L R : List Bool} {p n x : Nat} (h : L.drop p = bitsOf x n ++ R) (hx : x < 2 ^ n) : numA L p n = x := by
  unfold numA
  rw [h, List.take_append_of_le_length (by rw [bitsOf_length]; exact Nat.le_refl _), List.take_of_length_le (by rw [bitsOf_length]; exact Nat.le_refl _), num_bitsOf]
  rw [p2_pow]
  exact Nat.mod_eq_of_lt hx
theorem drop_more {L A R : List Bool} {p : Nat} (h : L.drop p = A ++ R) : L.drop (p + A.length) = R := by
  rw [← List.drop_drop, h, List.drop_left']
  rfl
theorem lensA_bits {L R : List Bool} : ∀ (ns : List Nat) {p : Nat}, (∀ n ∈ ns, n < 16) → L.drop p = lensB ns ++ R → lensA L p ns.length = ns
  | [], p, _, _ => rfl
  | n :: ns, p, hn, h => by
    have e : lensB (n :: ns) = bitsOf n 4 ++ lensB ns := rfl
    rw [e, List.append_assoc] at h
    have h1 := numA_bits h (hn n List.mem_cons_self)
    have h2 := drop_more h
    rw [bitsOf_length] at h2
    have h3 := lensA_bits ns (fun x hx => hn x (List.mem_cons_of_mem _ hx)) h2
    have h4 : lensA L p (ns.length + 1) = numA L p 4 :: lensA L (p + 4) ns.length := by
      unfold lensA
      rw [List.range_succ_eq_map, List.map_cons, List.map_map]
      congr 1
      apply List.map_congr_left
      intro i _
      show numA L (p + 4 * (i + 1)) 4 = numA L (p + 4 + 4 * i) 4
      rw [show p + 4 * (i + 1) = p + 4 + 4 * i by omega]
    rw [List.length_cons, h4, h1, h3]
theorem partF_back {F : List Int → List Bool → Int × Int × Nat} (hF : FunT F) {ls : List Nat} {t : Nat × Nat} (ht : t ∈ partsP ls 0) (hv : ∀ x ∈ ls, x ≤ 15) {U R : List Bool} (hU : U = partB (zN (lnP (partsP ls 0))) t ++ R) :
    partF F (zN (lnP (partsP ls 0))) U = (0, t.1, t.2, (partB (zN (lnP (partsP ls 0))) t).length) := by
  obtain ⟨h19, h1, h2, h3⟩ := part_bd hv ht
  obtain ⟨n, v, k, hy, _, hs, hv32, hn15⟩ := lnP_sym ht h19
  have hr := lnP_right ht h19
  obtain ⟨m, hm⟩ : ∃ m : Nat, isMax (zN (lnP (partsP ls 0))) (m : Int) := caR_max hr
  have hB : partB (zN (lnP (partsP ls 0))) t = codeB v n ++ bitsOf (t.2 - (spanP t.1).1) (spanP t.1).2 := by unfold partB; rw [hs]
  have hl : (codeB v n).length = n := codeB_len v n
  rw [hB, List.append_assoc] at hU
  have ht1 : U.take n = codeB v n := by rw [hU, List.take_append_of_le_length (by rw [hl]; exact Nat.le_refl _), List.take_of_length_le (by rw [hl]; exact Nat.le_refl _)]
  have hd : U.drop n = bitsOf (t.2 - (spanP t.1).1) (spanP t.1).2 ++ R := by
    have := drop_more (L := U) (p := 0) (A := codeB v n) (R := bitsOf (t.2 - (spanP t.1).1) (spanP t.1).2 ++ R) (by rw [List.drop_zero]; exact hU)
    rw [hl, Nat.zero_add] at this
    exact this
  have hUl : n + (spanP t.1).2 ≤ U.length := by rw [hU, List.length_append, List.length_append, hl, bitsOf_length]; omega
  have hf : F (zN (lnP (partsP ls 0))) U = ((t.1 : Int), 0, n) := hF _ _ _ _ _ m hm (.inl ⟨t.1, v, k, hy, by omega, by rw [ht1, hiN_code (hy.lt hr)], rfl, rfl⟩)
  have hx : num ((U.drop n).take (spanP t.1).2) = t.2 - (spanP t.1).1 := by
    have := numA_bits hd h3
    exact this
  unfold partF
  rw [hf]
  dsimp only
  rw [if_neg (by simp), if_neg (by rw [Int.toNat_natCast]; omega), Int.toNat_natCast, hx, hB, List.length_append, hl, bitsOf_length, show (spanP t.1).1 + (t.2 - (spanP t.1).1) = t.2 by omega]
theorem lensF_back {F : List Int → List Bool → Int × Int × Nat} (hF : FunT F) {ls : List Nat} (hv : ∀ x ∈ ls, x ≤ 15) {L R : List Bool} : ∀ (k p q : Nat), ls.length ≤ p + k → p ≤ ls.length → (∀ t ∈ partsP ls p, t ∈ partsP ls 0) → L.drop q = partsB (zN (lnP (partsP ls 0))) (partsP ls p) ++ R →
    lensF F (zN (lnP (partsP ls 0))) ls.length L k (ls.take p) q = (0, ls, q + (partsB (zN (lnP (partsP ls 0))) (partsP ls p)).length)
  | 0, p, q, h, hp, hin, hd => by
    obtain rfl : p = ls.length := by omega
    rw [lensF, List.take_length, partsP_end (ls := ls) (p := ls.length) (by omega)]
    rfl
  | k + 1, p, q, h, hp, hin, hd => by
    rw [lensF, List.length_take, Nat.min_eq_left hp]
    by_cases hlt : p < ls.length
    · rw [if_neg (by omega)]
      have hst := partsP_step hlt
      have ht : (numP ls p, manyP ls p) ∈ partsP ls 0 := hin _ (by rw [hst]; exact List.mem_cons_self)
      have e : partsB (zN (lnP (partsP ls 0))) (partsP ls p) = partB (zN (lnP (partsP ls 0))) (numP ls p, manyP ls p) ++ partsB (zN (lnP (partsP ls 0))) (partsP ls (p + manyP ls p)) := by rw [hst]; rfl
      rw [e, List.append_assoc] at hd
      have hpf := partF_back hF ht hv hd
      have h1 := manyP_pos hlt
      have h2 := many_le hlt
      obtain ⟨hs1, hs2⟩ := says_here hv hlt
      rw [hpf]
      dsimp only
      rw [if_neg (by simp), if_neg (by
        rintro ⟨h16, hnil⟩
        have := hs2 h16
        have h5 := congrArg List.length hnil
        rw [List.length_take, List.length_nil] at h5
        omega), if_neg (by omega), hs1, ← take_many, lensF_back hF hv k (p + manyP ls p) _ (by omega) h2 (fun t htt => hin t (by rw [hst]; exact List.mem_cons_of_mem _ htt)) (drop_more hd), e, List.length_append, Nat.add_assoc]
    · obtain rfl : p = ls.length := by omega
      rw [if_pos (Nat.le_refl _), List.take_length, partsP_end (ls := ls) (p := ls.length) (by omega)]
      rfl
theorem tkF_back {F : List Int → List Bool → Int × Int × Nat} (hF : FunT F) {ls : List Nat} (h1 : 1 ≤ ls.length) (hm : ls.length ≤ 320) (hv : ∀ x ∈ ls, x ≤ 15) {L R : List Bool} {p : Nat} (hd : L.drop p = tabP ls ++ R) : tkF F L p = (0, ls, p + (tabP ls).length) := by
  have hp : p + (tabP ls ++ R).length ≤ L.length ∨ L.length ≤ p := by
    rw [← hd, List.length_drop]; omega
  obtain ⟨t, ht⟩ := partsP_ne (ls := ls) h1
  have hr := lnP_right ht (partsP_all hv t ht)
  have hT : tabP ls = bitsOf ls.length 9 ++ (lensB (lnP (partsP ls 0)) ++ partsB (zN (lnP (partsP ls 0))) (partsP ls 0)) := by rw [tabP, List.append_assoc]
  have hTl : (tabP ls).length = 85 + (partsB (zN (lnP (partsP ls 0))) (partsP ls 0)).length := by
    rw [hT, List.length_append, List.length_append, bitsOf_length, lensB_len, lnP_len]; omega
  have hlen : p + (tabP ls).length ≤ L.length := by
    rcases hp with h | h
    · rw [List.length_append] at h; omega
    · rw [List.drop_of_length_le h] at hd
      have := congrArg List.length hd
      rw [List.length_append, hTl, List.length_nil] at this
      omega
  rw [hT, List.append_assoc] at hd
  have h9 := numA_bits hd (Nat.lt_of_le_of_lt hm (by decide))
  have hd2 := drop_more hd
  rw [bitsOf_length, List.append_assoc] at hd2
  have hls := lensA_bits (lnP (partsP ls 0)) (fun n hn => by
    obtain ⟨k, hk⟩ := List.mem_iff_getElem?.1 hn
    exact Nat.lt_succ_of_le (lnP_le hk)) hd2
  have hd3 := drop_more hd2
  rw [lensB_len, lnP_len] at hd3
  rw [lnP_len] at hls
  have hz : ((lnP (partsP ls 0)).map fun n : Nat => (n : Int)) = zN (lnP (partsP ls 0)) := rfl
  have hb := lensF_back hF hv (L := L) (R := R) ls.length 0 (p + 85) (by omega) (Nat.zero_le _) (fun _ h => h) hd3
  unfold tkF
  rw [if_neg (by omega), h9, if_neg (by omega), if_neg (by omega), hls, hz, if_neg (by rw [hr]; simp), List.take_zero.symm, hb, hTl]
  congr 2
  omega
end Go.Proofs.YtgbbdgoleiolhaaGreat
/- Layer 9: the reference's Put. -/
namespace Go.Proofs.YtgbbdgoleiolhaaGreat
open Go.RowKit BitsP
attribute [local go_sem ↓] Go.wp_at_zero Go.wp_at_succ

theorem NB.cellsN {w : World} {g : Nat} {ns : List Nat} (h : NB w g ns) : Cells w w.heap.size (some ⟨g, 0, none⟩) (nCs ns) := fun _ =>
  ⟨g, 0, rfl, h.lt, fun j u hu => by
    rw [Nat.zero_add, cell_of_row w g j _ _ _ h, ← Array.getElem?_toList]
    exact hu⟩
theorem own_leP {w : World} {base base' : Nat} {e : TypeId} {size n : Nat} {v : Value} {xs : List Value} (h : w.ownsRow base e size v n xs) (hb : base' ≤ base) : w.ownsRow base' e size v n xs := by
  obtain ⟨h1, h2⟩ := h
  refine ⟨h1, ?_⟩
  rcases h2 with h2 | ⟨g, c, cur, hv, hg, h3⟩
  · exact .inl h2
  · exact .inr ⟨g, c, cur, hv, Nat.le_trans hb hg, h3⟩
theorem partsB_up {zs : List Int} {ps : List (Nat × Nat)} {k : Nat} {t : Nat × Nat} (h : ps[k]? = some t) : partsB zs (ps.take (k + 1)) = partsB zs (ps.take k) ++ partB zs t := by
  rw [List.take_add_one, h, ← partsB_snoc]
  rfl
set_option maxRecDepth 100000 in
set_option maxHeartbeats 4000000 in
theorem rput9_any (A : Option Addr) (l c : Nat) (ls : List Nat) (w : World) (hl : ls.length = l) (h1l : 1 ≤ l) (hm : l ≤ 320) (hv : ∀ x ∈ ls, x ≤ 15) (hb : Cells w w.heap.size A (nCs ls)) :
    Calls Tryz.prog 31 #[.slice A l c] w fun e w' => ∃ A' c', e = .returned (.slice A' (tabP ls).length c') ∧ OwnB w' w.heap.size 5 (.slice A' (tabP ls).length c') (tabP ls).length (bitBytes (tabP ls)) ∧ Below w.heap.size w w' := by
  have HRP := Lib.hid (rparts_any A l c ls w.heap.size w hl (by omega) hv hb (Nat.le_refl _))
  have hfew := parts_few ls
  have HALL : Hid (∀ t ∈ partsP ls 0, t.1 < 19 ∧ (spanP t.1).1 ≤ t.2 ∧ t.2 ≤ ls.length ∧ t.2 - (spanP t.1).1 < 2 ^ (spanP t.1).2) := fun t ht => part_bd hv ht
  have HRT : Hid (caR (zN (lnP (partsP ls 0))) = true) := by
    obtain ⟨t, ht⟩ := partsP_ne (ls := ls) (by omega)
    exact lnP_right ht (partsP_all hv t ht)
  obtain ⟨ps, hps⟩ : ∃ ps, partsP ls 0 = ps := ⟨_, rfl⟩
  have HT : Hid (tabP ls = bitsOf l 9 ++ lensB (lnP ps) ++ partsB (zN (lnP ps)) ps) := by show _ = _; rw [tabP, hps, hl]
  rw [hps] at HRP HALL HRT hfew
  obtain ⟨n, hn⟩ : ∃ n, ps.length = n := ⟨_, rfl⟩
  have HN := Lib.hid hn
  rw [hn] at HRP
  have hn320 : n ≤ 320 := by omega
  rw [HT.out]
  clear hps hl hv hb hn hfew
  have mk0 : ∀ W, (Instr.makeSlice 53 (.int .i64 19) (.int .i64 19)).run Tryz.prog W = .ok (.slice (some ⟨W.heap.size, 0, none⟩) 19 19) (W.alloc (.cells (madeCells #[.int .i64 0] 19) 3)) := fun W => make_ints 19 (by omega) W
  go_enter Tryz.func31, Tryz.ntmps31
  go_wp2_with (go_at_call 55; refine HRP.out.mono ?_; rintro e w1 ⟨Ap, cp, rfl, hrow, hb1⟩; have HC1 := Lib.hid (cells_of_ownP hrow); have HB1 := Lib.hid hb1; clear hrow hb1)
  obtain ⟨W2, hW2⟩ : ∃ W2, w1.alloc (.cells (madeCells #[.int .i64 0] 19) 3) = W2 := ⟨_, rfl⟩
  have HN2 : Hid (NB W2 w1.heap.size (oftP (ps.take 0))) := by show NB _ _ _; rw [← hW2]; exact wei_made w1 19
  have HB2 : Hid (Below w1.heap.size w1 W2) := by show Below _ _ _; rw [← hW2]; exact (Below.refl _ _).alloc (Nat.le_refl _) _
  rw [hW2]
  clear hW2
  have HCP : Hid (∀ W k t, Below w1.heap.size w1 W → ps[k]? = some t → ∃ b o, Ap = some ⟨b, o, none⟩ ∧ b < w1.heap.size ∧ W.cell? ⟨b, o + k * 2, none⟩ = some (.int .i64 (t.1 : Int)) ∧ W.cell? ⟨b, o + k * 2 + 1, none⟩ = some (.int .i64 (t.2 : Int))) := fun W k t hW hk => by
    have hlen := (List.getElem?_eq_some_iff.1 hk).1
    obtain ⟨b, o, hA, hbB, hc⟩ := HC1.out (by rw [ptC_len]; omega)
    obtain ⟨h1, h2⟩ := ptC_at hk
    exact ⟨b, o, hA, hbB, (hW.cell (p := ⟨b, o + k * 2, none⟩) hbB).trans (hc _ _ h1), (hW.cell (p := ⟨b, o + k * 2 + 1, none⟩) hbB).trans (by rw [Nat.add_assoc]; exact hc _ _ h2)⟩
  go_loopg [5] n (fun gk i wr => ∃ k : Nat, k + gk = n ∧ i = .int .i64 (k : Int) ∧ NB wr w1.heap.size (oftP (ps.take k)) ∧ Below w1.heap.size w1 wr)
  case atStart => exact ⟨0, by omega, rfl, HN2.out, HB2.out⟩
  case round =>
    obtain ⟨k, hk, rfl, hnb, hbel⟩ := hrel
    have HNB := Lib.hid hnb
    have HBEL := Lib.hid hbel
    clear hnb hbel HN2 HB2
    by_cases hkn : k < n
    · obtain ⟨t, ht⟩ : ∃ t, ps[k]? = some t := ⟨_, List.getElem?_eq_getElem (by rw [HN.out]; exact hkn)⟩
      have hm2 := List.mem_of_getElem? ht
      obtain ⟨h19, _, _, _⟩ := HALL.out t hm2
      obtain ⟨b, o, rfl, hbB, c0, _⟩ := HCP.out wr k t HBEL.out ht
      obtain ⟨x, hx⟩ : ∃ x, (oftP (ps.take k))[t.1]? = some x := ⟨_, List.getElem?_eq_getElem (by rw [oftP_len]; exact h19)⟩
      have hx320 : x ≤ 320 := by
        have h1 := oftP_le (ps.take k) x (List.mem_of_getElem? hx)
        rw [List.length_take] at h1
        omega
      have c1 := HNB.out.cell hx
      have f1 : wr.frozen? ⟨w1.heap.size, t.1, none⟩ = false := HNB.out.free
      have HUP : Hid (oftP (ps.take (k + 1)) = (oftP (ps.take k)).set t.1 (x + 1)) := by
        show _ = _
        rw [List.take_add_one, ht]
        have h1 := oftP_snoc (ps.take k) t
        rw [show (oftP (ps.take k)).getD t.1 0 = x by rw [List.getD, hx]; rfl] at h1
        exact h1
      clear ht hm2 hx
      obtain ⟨s, d⟩ := t
      dsimp only at h19 c0 c1 f1 HUP
      go_wp2
      go_roundg (gk - 1)
      case measure => omega
      case rel => exact ⟨k + 1, by omega, by go_num, by rw [HUP.out]; have h := HNB.out.set s (x + 1); push_cast at h; exact h, HBEL.out.setCell (Nat.le_refl _) _⟩
    · obtain rfl : k = n := by omega
      rw [show ps.take k = ps from List.take_of_length_le (by rw [HN.out]; exact Nat.le_refl _)] at HNB
      have HLN : Hid (Calls Tryz.prog 29 #[.slice (some ⟨w1.heap.size, 0, none⟩) 19 19] wr fun e w' => e = .returned (.slice (some ⟨wr.heap.size, 0, none⟩) 19 19) ∧ NB w' wr.heap.size (lnP ps) ∧ Below wr.heap.size wr w') :=
        refLen_ok (some ⟨w1.heap.size, 0, none⟩) 19 19 (oftP ps) wr.heap.size wr (oftP_len ps) (by omega) HNB.out.cellsN (Nat.le_refl _) (fun y hy => by have := oftP_le ps y hy; have := HN.out; omega)
      have HVL : Hid (∀ W, NB W wr.heap.size (lnP ps) → Calls Tryz.prog 30 #[.slice (some ⟨wr.heap.size, 0, none⟩) 19 19] W fun e w' => e = .returned (.slice (some ⟨W.heap.size, 0, none⟩) 19 19) ∧ IntBlock w' W.heap.size (caV (zN (lnP ps))) ∧ Below W.heap.size W w') := fun W hW =>
        ref8Values_any (some ⟨wr.heap.size, 0, none⟩) 19 19 (zN (lnP ps)) W.heap.size W (by rw [zN_len, lnP_len]) (by omega) (by have h := hW.cellsN; rw [zN_cs] at h; exact h) (Nat.le_refl _)
      have hwl : IntKind.u32.wrap (l : Int) = (l : Int) := IntWalk.u32_in _ (by omega)
      have HRW := Lib.hid (fun W => refRow_any (l : Int) 9 W (by omega) (by omega) (by omega) (by omega))
      rw [show cnt 9 = 9 from rfl, Int.toNat_natCast] at HRW
      go_wp2_with (first
        | (go_at_call 29; refine HLN.out.mono ?_; rintro e w3 ⟨rfl, hn3, hb3⟩; have HN3 := Lib.hid hn3; have HB3 := Lib.hid hb3; clear hn3 hb3)
        | (go_at_call 30; refine (HVL.out _ HN3.out).mono ?_; rintro e w4 ⟨rfl, hi4, hb4⟩; have HI4 := Lib.hid hi4; have HB4 := Lib.hid hb4; clear hi4 hb4)
        | (go_at_call 41; refine (HRW.out _).mono ?_; rintro e w5 ⟨A5, c5, rfl, ho5, hb5⟩; have HO5 := Lib.hid ho5; have HB5 := Lib.hid hb5; clear ho5 hb5))
      have HG : Hid (w1.heap.size < wr.heap.size ∧ wr.heap.size < w3.heap.size ∧ w3.heap.size < w4.heap.size) := ⟨HNB.out.lt, HN3.out.lt, ib_lt HI4.out⟩
      have HB14 : Hid (Below w1.heap.size w1 w4) := (HBEL.out.trans (HB3.out.mono (by have := HG.out; omega))).trans (HB4.out.mono (by have := HG.out; omega))
      have HLN4 : Hid (∀ (W : World) (j y : Nat), Below w4.heap.size w4 W → (lnP ps)[j]? = some y → W.cell? ⟨wr.heap.size, j, none⟩ = some (.int .i64 (y : Int))) := fun W j y hW hj =>
        NB.cell ((HN3.out.below HB4.out (by have := HG.out; omega)).below hW (by have := HG.out; omega)) hj
      have HVL4 : Hid (∀ (W : World) (j : Nat) (y : Int), Below w4.heap.size w4 W → (caV (zN (lnP ps)))[j]? = some y → W.cell? ⟨w3.heap.size, j, none⟩ = some (.int .i64 y)) := fun W j y hW hj =>
        (hW.cell (p := ⟨w3.heap.size, j, none⟩) (by show w3.heap.size < _; have := HG.out; omega)).trans (ib_cell HI4.out hj)
      have HCP4 : Hid (∀ W k t, Below w4.heap.size w4 W → ps[k]? = some t → ∃ b o, Ap = some ⟨b, o, none⟩ ∧ b < w1.heap.size ∧ W.cell? ⟨b, o + k * 2, none⟩ = some (.int .i64 (t.1 : Int)) ∧ W.cell? ⟨b, o + k * 2 + 1, none⟩ = some (.int .i64 (t.2 : Int))) := fun W k t hW hk =>
        HCP.out W k t (HB14.out.trans (hW.mono (by have := HG.out; omega))) hk
      have HW4 : Hid (Below w.heap.size w w4) := HB1.out.trans (HB14.out.mono HB1.out.size)
      obtain ⟨gl, hgl⟩ : ∃ gl, wr.heap.size = gl := ⟨_, rfl⟩
      obtain ⟨gv, hgv⟩ : ∃ gv, w3.heap.size = gv := ⟨_, rfl⟩
      rw [hgl] at HLN4
      rw [hgv] at HVL4
      rw [hgl, hgv]
      clear HNB HBEL HLN HVL HN3 HB3 HI4 HB4 HG HB14 HCP hgl hgv HC1
      obtain ⟨M1, hM1⟩ : ∃ M1, bitsOf l 9 = M1 := ⟨_, rfl⟩
      have hM1l : M1.length = 9 := by rw [← hM1, bitsOf_length]
      have HO5' : Hid (OwnB w5 w4.heap.size 5 (.slice A5 9 c5) 9 (bitBytes (M1 ++ lensB ((lnP ps).take 0)))) := by
        have h := HO5.out
        rw [hM1] at h
        show OwnB _ _ _ _ _ _
        simpa [lensB] using h
      have HM1 := Lib.hid hM1
      clear hM1 HO5
      go_loopg [8, 9] 19 (fun gk v i wr => ∃ k : Nat, k + gk = 19 ∧ i = .int .i64 (k : Int) ∧ OwnB wr w4.heap.size 5 v (9 + 4 * k) (bitBytes (M1 ++ lensB ((lnP ps).take k))) ∧ Below w4.heap.size w4 wr)
      case atStart => exact ⟨0, by omega, rfl, HO5'.out, HB5.out⟩
      case round =>
        obtain ⟨k2, hk2, rfl, hown, hbel⟩ := hrel
        have HOWN := Lib.hid hown
        have HBEL := Lib.hid hbel
        clear hown hbel HO5' HB5
        obtain ⟨A6, c6, rfl⟩ := own_form HOWN.out
        by_cases hk19 : k2 < 19
        · obtain ⟨y, hy⟩ : ∃ y, (lnP ps)[k2]? = some y := ⟨_, List.getElem?_eq_getElem (by rw [lnP_len]; exact hk19)⟩
          have hy15 : y ≤ 15 := lnP_le hy
          have c0 := HLN4.out wr k2 y HBEL.out hy
          have hwy : IntKind.u32.wrap (y : Int) = (y : Int) := IntWalk.u32_in _ (by omega)
          have HUP : Hid (bitBytes (M1 ++ lensB ((lnP ps).take (k2 + 1))) = bitBytes (M1 ++ lensB ((lnP ps).take k2)) ++ bitBytes (bitsOf y 4)) := by show _ = _; rw [lensB_up hy, ← List.append_assoc, bitBytes_append]
          have HR4 := Lib.hid (fun W => refRow_any (y : Int) 4 W (by omega) (by omega) (by omega) (by omega))
          rw [show cnt 4 = 4 from rfl, Int.toNat_natCast] at HR4
          clear hy
          go_wp2_with (first
            | (go_at_call 41; refine (HR4.out _).mono ?_; rintro e w7 ⟨A7, c7, rfl, ho7, hb7⟩; have HO7 := Lib.hid (Cells.of_own ho7); have HOW7 := Lib.hid (own_keep HOWN.out (Mod.of_below hb7) (fun _ _ h => h)); have HB7 := Lib.hid (HBEL.out.trans (hb7.mono HBEL.out.size)); clear ho7 hb7)
            | (at_builtin; refine wpList_app w7 byteElem3 rfl (.tmp 45) (.tmp 51) rfl w4.heap.size (.slice A6 (9 + 4 * k2) c6) (9 + 4 * k2) (byteCells (bitBytes (M1 ++ lensB ((lnP ps).take k2)))) rfl HOW7.out w7.heap.size A7 4 c7 (byteCells (bitBytes (bitsOf y 4))) rfl (by rw [byteCells_length, bitBytes_length, bitsOf_length]) HO7.out (byteCells_one _) (by unfold maxLen; omega) (by omega) HB7.out.size ?_; intro A8 c8 w8 hA; have HA := Lib.hid hA; clear hA))
          go_roundg (gk - 1)
          case measure => omega
          case rel =>
            refine ⟨k2 + 1, by omega, by go_num, ?_, HA.out.below HB7.out HB7.out.size (own_base HOW7.out)⟩
            have h := HA.out.own
            rw [← byteCells_append, ← HUP.out] at h
            exact h
        · obtain rfl : k2 = 19 := by omega
          rw [show (lnP ps).take 19 = lnP ps from List.take_of_length_le (by rw [lnP_len]; exact Nat.le_refl _)] at HOWN
          obtain ⟨M2, hM2⟩ : ∃ M2, M1 ++ lensB (lnP ps) = M2 := ⟨_, rfl⟩
          have hM2l : M2.length = 85 := by rw [← hM2, List.length_append, lensB_len, lnP_len, hM1l]
          rw [hM2] at HOWN
          have HM2 := Lib.hid hM2
          have HOWN' : Hid (OwnB wr w4.heap.size 5 (.slice A6 (M2 ++ partsB (zN (lnP ps)) (ps.take 0)).length c6) (M2 ++ partsB (zN (lnP ps)) (ps.take 0)).length (bitBytes (M2 ++ partsB (zN (lnP ps)) (ps.take 0)))) := by
            show OwnB _ _ _ _ _ _
            have e : M2 ++ partsB (zN (lnP ps)) (ps.take 0) = M2 := by simp [partsB]
            rw [e, hM2l]
            exact HOWN.out
          have hv0 : (9 : Nat) + 4 * 19 = (M2 ++ partsB (zN (lnP ps)) (ps.take 0)).length := by rw [show M2 ++ partsB (zN (lnP ps)) (ps.take 0) = M2 by simp [partsB], hM2l]
          rw [hv0]
          clear hM2 HOWN hv0
          go_wp2
          obtain ⟨wq, hwq⟩ : ∃ wq, wq = wr := ⟨_, rfl⟩
          subst hwq
          go_loopg [8, 10] k (fun gk v i wr => ∃ k2 : Nat, k2 + gk = k ∧ i = .int .i64 (k2 : Int) ∧ OwnB wr w4.heap.size 5 v (M2 ++ partsB (zN (lnP ps)) (ps.take k2)).length (bitBytes (M2 ++ partsB (zN (lnP ps)) (ps.take k2))) ∧ Below w4.heap.size w4 wr)
          case atStart => exact ⟨0, by omega, rfl, HOWN'.out, HBEL.out⟩
          case round =>
            obtain ⟨k3, hk3, rfl, hown, hbel⟩ := hrel
            have HOWN := Lib.hid hown
            have HBL := Lib.hid hbel
            clear hown hbel HOWN' HBEL
            obtain ⟨A9, c9, rfl⟩ := own_form HOWN.out
            by_cases hk3k : k3 < k
            · obtain ⟨t, ht⟩ : ∃ t, ps[k3]? = some t := ⟨_, List.getElem?_eq_getElem (by rw [HN.out]; exact hk3k)⟩
              have hm3 := List.mem_of_getElem? ht
              obtain ⟨h19, hsp1, hsp2, hsp3⟩ := HALL.out t hm3
              obtain ⟨y, v, kk, hy, hyl, hsy, hv, hy15⟩ := lnP_sym hm3 h19
              have HVV : Hid ((caV (zN (lnP ps)))[t.1]? = some (v : Int)) := hy.val
              have HYL := Lib.hid hyl
              have hpb := partsB_len HRT.out (ps.take k3)
              rw [List.length_take] at hpb
              have HUP : Hid (M2 ++ partsB (zN (lnP ps)) (ps.take (k3 + 1)) = (M2 ++ partsB (zN (lnP ps)) (ps.take k3)) ++ (codeB v y ++ bitsOf (t.2 - (spanP t.1).1) (spanP t.1).2)) := by
                show _ = _
                rw [partsB_up ht, partB, hsy, List.append_assoc]
              have HCC : Hid (∀ W, Below w4.heap.size w4 W → ∃ b o, Ap = some ⟨b, o, none⟩ ∧ W.cell? ⟨b, o + k3 * 2, none⟩ = some (.int .i64 (t.1 : Int)) ∧ W.cell? ⟨b, o + k3 * 2 + 1, none⟩ = some (.int .i64 (t.2 : Int))) := fun W hW => by
                obtain ⟨b, o, h1, _, h2, h3⟩ := HCP4.out W k3 t hW ht
                exact ⟨b, o, h1, h2, h3⟩
              have hM3l : (M2 ++ partsB (zN (lnP ps)) (ps.take k3)).length ≤ 10000 := by rw [List.length_append]; omega
              obtain ⟨M3, hM3⟩ : ∃ M3, M2 ++ partsB (zN (lnP ps)) (ps.take k3) = M3 := ⟨_, rfl⟩
              rw [hM3] at HUP HOWN hM3l ⊢
              have hspl := spanP_le t.1
              obtain ⟨s, d⟩ := t
              dsimp only at h19 hsp1 hsp2 hsp3 HVV HYL HUP HCC hspl
              have HEX := Lib.hid (fun W => rextra_any s W)
              obtain ⟨⟨sa, sb⟩, hab⟩ : ∃ ab, spanP s = ab := ⟨_, rfl⟩
              rw [hab] at hsp1 hsp3 HUP hspl HEX
              dsimp only at hsp1 hsp3 HUP hspl HEX
              obtain ⟨dm, hdm⟩ : ∃ dm, d - sa = dm := ⟨_, rfl⟩
              rw [hdm] at HUP
              have hdm2 : (d : Int) - (sa : Int) = (dm : Int) := by omega
              have hdl : dm ≤ 320 := by
                have h7 : 2 ^ sb ≤ 128 := Nat.pow_le_pow_right (n := 2) (by decide) hspl.2.2
                omega
              have hwd : IntKind.u32.wrap (dm : Int) = (dm : Int) := IntWalk.u32_in _ (by omega)
              obtain ⟨m3, hm3'⟩ : ∃ m3, M3.length = m3 := ⟨_, rfl⟩
              have HM3L := Lib.hid hm3'
              rw [hm3'] at HOWN hM3l ⊢
              have HCL : Hid ((codeB v y).length = y) := codeB_len v y
              have HLEN : Hid ((M2 ++ partsB (zN (lnP ps)) (ps.take (k3 + 1))).length = m3 + y + sb) := by
                show _ = _
                rw [HUP.out, List.length_append, List.length_append, HCL.out, bitsOf_length, HM3L.out, Nat.add_assoc]
              have HBY : Hid (byteCells (bitBytes (M2 ++ partsB (zN (lnP ps)) (ps.take (k3 + 1)))) = byteCells (bitBytes M3) ++ byteCells (bitBytes (codeB v y)) ++ byteCells (bitBytes (bitsOf dm sb))) := by
                show _ = _
                rw [HUP.out, bitBytes_append, bitBytes_append, byteCells_append, byteCells_append, List.append_assoc]
              have HREF := Lib.hid (fun W => refBits_any v y W hv hy15)
              have HRWD := Lib.hid (fun W => refRow_any (dm : Int) (sb : Int) W (by omega) (by omega) (by omega) (by omega))
              rw [cnt_nat (k := sb) (by omega), Int.toNat_natCast] at HRWD
              obtain ⟨b, o, rfl, c0, c1⟩ := HCC.out wr HBL.out
              have HP3 : Hid (∀ W, Below w4.heap.size w4 W → W.cell? ⟨gl, s, none⟩ = some (.int .i64 (y : Int)) ∧ W.cell? ⟨gv, s, none⟩ = some (.int .i64 (v : Int))) := fun W hW => ⟨HLN4.out W s y hW HYL.out, HVL4.out W s v hW HVV.out⟩
              have HC1' : Hid (∀ W, Below w4.heap.size w4 W → W.cell? ⟨b, o + k3 * 2 + 1, none⟩ = some (.int .i64 (d : Int))) := fun W hW => by
                obtain ⟨b', o', h1, _, h3⟩ := HCC.out W hW
                cases h1
                exact h3
              have S5 := HP3.out wr HBL.out
              have i19 : (s : Int) < 19 := by omega
              have i0 : (0 : Int) ≤ (s : Int) := by omega
              clear ht hm3 hy hyl hsy hM3 hm3' hdm hab hpb HCC
              go_upto_region 18 with fail
              go_region_held3 (fun W => W.cell? ⟨gl, s, none⟩ = some (.int .i64 (y : Int)) ∧ W.cell? ⟨gv, s, none⟩ = some (.int .i64 (v : Int))) (first | exact S5 | exact S6 | exact S7)
                ((first
                | (go_at_call 56; refine (HREF.out _).mono ?_; rintro e w6 ⟨A6, c6, rfl, hown, hbel⟩; have HO6 := Lib.hid (Cells.of_own hown); have HOW6 := Lib.hid (own_keep HOWN.out.drew (Mod.of_below hbel) (fun _ _ h => h)); have HB6 := Lib.hid (HBL.out.drew.trans (hbel.mono HBL.out.size)); clear hown hbel; have S6 := HP3.out _ HB6.out)
                | (refine step_app _ byteElem3 (by rfl) (.tmp 64) (.tmp 73) (by rfl) w4.heap.size (.slice A9 m3 c9) m3 (byteCells (bitBytes M3)) (by rfl) HOW6.out w6.heap.size A6 y c6 (byteCells (bitBytes (codeB v y))) (by rfl) (by rw [byteCells_length, bitBytes_length, HCL.out, Nat.mul_one]) HO6.out (byteCells_one _) (by unfold maxLen; omega) (by omega) HB6.out.size ?_; intro A7 c7 w7 hA; have HA := Lib.hid hA; clear hA; have HB7 := Lib.hid (HA.out.below HB6.out HB6.out.size (own_base HOW6.out)); have S7 := HP3.out _ HB7.out)))
              have c1' := HC1'.out w7 HB7.out
              go_wp2_with (first
                | (go_at_call 57; refine (HEX.out _).mono ?_; rintro e w' ⟨rfl, rfl⟩)
                | (go_at_call 41; refine (HRWD.out _).mono ?_; rintro e w8 ⟨A8, c8, rfl, ho8, hb8⟩; have HO8 := Lib.hid (Cells.of_own ho8); have HOW8 := Lib.hid (own_keep HA.out.own (Mod.of_below hb8) (fun _ _ h => h)); have HB8 := Lib.hid (HB7.out.trans (hb8.mono HB7.out.size)); clear ho8 hb8)
                | (at_builtin; refine wpList_app w8 byteElem3 rfl (.tmp 80) (.tmp 90) rfl w4.heap.size (.slice A7 (m3 + y) c7) (m3 + y) (byteCells (bitBytes M3) ++ byteCells (bitBytes (codeB v y))) rfl HOW8.out w8.heap.size A8 sb c8 (byteCells (bitBytes (bitsOf dm sb))) rfl (by rw [byteCells_length, bitBytes_length, bitsOf_length, Nat.mul_one]) HO8.out (byteCells_one _) (by unfold maxLen; omega) (by omega) HB8.out.size ?_; intro A10 c10 w10 hA10; have HA10 := Lib.hid hA10; clear hA10))
              go_roundg (gk - 1)
              case measure => omega
              case rel =>
                refine ⟨k3 + 1, by omega, by go_num, ?_, HA10.out.below HB8.out HB8.out.size (own_base HOW8.out)⟩
                have h := HA10.out.own
                rw [HLEN.out]
                unfold OwnB
                rw [HBY.out]
                exact h
            · obtain rfl : k3 = k := by omega
              rw [show ps.take k3 = ps from List.take_of_length_le (by rw [HN.out]; exact Nat.le_refl _)] at HOWN ⊢
              have HE : Hid (M2 ++ partsB (zN (lnP ps)) ps = bitsOf l 9 ++ lensB (lnP ps) ++ partsB (zN (lnP ps)) ps) := by show _ = _; rw [← HM2.out, ← HM1.out]
              have HSZ := Lib.hid HW4.out.size
              go_wp2
              go_ret
              rw [← HE.out]
              exact ⟨A9, c9, rfl, own_leP HOWN.out HSZ.out, HW4.out.trans (HBL.out.mono HSZ.out)⟩
end Go.Proofs.YtgbbdgoleiolhaaGreat
