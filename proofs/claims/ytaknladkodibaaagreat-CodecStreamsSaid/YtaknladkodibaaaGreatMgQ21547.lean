/- Layer 9: Put. -/
import Derived.Test.YtaknladkodibaaaGreatMgQ21546
import Derived.Test.YtaknladkodibaaaGreatMgQ21545
import Derived.Test.YtaknladkodibaaaGreatMgQ215SBitsCut
import Derived.Test.YtaknladkodibaaaGreatMgQ21534
import Derived.Test.YtaknladkodibaaaGreatMgQ21521
import Derived.Test.YtaknladkodibaaaGreatMgQ21530
import Derived.Test.YtaknladkodibaaaGreatMgQ21516
import Derived.Test.YtaknladkodibaaaGreatMgQ21529
namespace Go.Proofs.YtaknladkodibaaaGreat
open Go.RowKit Go.Shelf BitsP
attribute [local go_sem] Oper.semAt_some

theorem wr_own {W : World} {q base : Nat} {S : Nat → Prop} {L : List Bool} (h : WrS W q base S L) :
    ∃ v, W.cell? ⟨q, 0, none⟩ = some v ∧ S = orS (oneB q) (ownS v) ∧ ¬ ownS v q ∧ (∀ k, ownS v k → base ≤ k) ∧ ∀ k, S k → ∃ o, W.heap[k]? = some o ∧ o.isCells = true := by
  obtain ⟨whole, R, hsp, A, c, hb, hown, rfl⟩ := h
  refine ⟨_, hb.cells.1, rfl, own_ne hown hb (by decide), own_base hown, fun k hk => ?_⟩
  rcases hk with rfl | hk
  · exact ⟨_, hb, rfl⟩
  · rcases hown.2 with ⟨h1, _⟩ | ⟨g, cap, cur, h1, _, hh, _⟩
    · rw [h1] at hk; cases hk
    · rw [h1] at hk
      cases hk
      exact ⟨_, hh, rfl⟩
theorem wr_kept {W W' : World} {q base : Nat} {S : Nat → Prop} {L : List Bool} (h : WrS W q base S L) (hm : Mod S W W') : KeepsOthers W W' := by
  obtain ⟨v, _, _, _, _, hc⟩ := wr_own h
  exact ⟨hm.size, fun k o hk ho => hm.keep hk (fun hs => by
    obtain ⟨o', h1, h2⟩ := hc k hs
    rw [hk] at h1
    cases h1
    rw [ho] at h2
    cases h2)⟩
theorem kpb_wr {W W' : World} {n q base : Nat} {S S' : Nat → Prop} {L L' : List Bool} (h : WrS W q base S L) (h' : WrS W' q base S' L') (hm : Mod S W W') (hs : ∀ k, S' k → S k ∨ W.heap.size ≤ k) (hn : n ≤ W.heap.size) (hq : n ≤ q) (hb : n ≤ base) : KpB n q W W' := by
  obtain ⟨v, h1, h2, h3, h4, _⟩ := wr_own h
  obtain ⟨v', k1, k2, k3, _, _⟩ := wr_own h'
  have e1 : ownOf q W = v.ownBlock := by unfold ownOf; rw [h1]; rfl
  have e2 : ownOf q W' = v'.ownBlock := by unfold ownOf; rw [k1]; rfl
  refine ⟨hm.below (Below.refl n W) hn (fun k hk => ?_), fun k o hk _ hkq hno => hm.keep hk (fun hsk => ?_), fun k hk => ?_, hm.size⟩
  · rw [h2] at hk
    rcases hk with hk | hk
    · have : k = q := hk; omega
    · have := h4 k hk; omega
  · rw [h2] at hsk
    rcases hsk with hsk | hsk
    · exact hkq hsk
    · exact hno (e1.trans hsk)
  · rw [e2] at hk
    have hlt := h'.lt k (by rw [k2]; exact .inr hk)
    refine ⟨?_, .inr hlt⟩
    rcases hs k (by rw [k2]; exact .inr hk) with hsk | hsk
    · rw [h2] at hsk
      rcases hsk with hsk | hsk
      · have : k = q := hsk
        subst this
        exact absurd hk k3
      · exact .inl (e1.trans hsk)
    · exact .inr hsk
/-- What the first loop holds. -/
def ofI (N : Nat) (W1 : World) (pre : List (Nat × Nat)) (W : World) : Prop := NB W (N + 1) (oftP pre) ∧ Boxed W (N + 2) 56 (.slice (some ⟨N + 1, 0, none⟩) 19 19) ∧ Below (N + 1) W1 W
theorem ofI_own (N M : Nat) (W1 : World) (h1 : N + 1 ≤ W1.heap.size) (h2 : N + 1 ≤ M) : OwnFrom M (ofI N W1) := by
  have h : OwnS M (fun _ => False) (ofI N W1) := (ownS_cells (cs := fun pre => (nCs (oftP pre)).toArray) (fun h => h)).and ((ownS_cells (cs := fun _ => #[.slice (some ⟨N + 1, 0, none⟩) 19 19]) (fun h => h)).and (ownS_below h1 h2 (fun _ h => h.elim)))
  exact h.from
theorem ofI.alloc' {N : Nat} {W1 W : World} {pre : List (Nat × Nat)} (h : ofI N W1 pre W) (o : Obj) : ofI N W1 pre (W.alloc o) :=
  ⟨(Below.heap_alloc _ _ _ (Array.getElem?_eq_some_iff.1 h.1).1).trans h.1, h.2.1.alloc _, h.2.2.alloc (by have := h.2.1.lt; omega) o⟩
theorem ofI_step {N : Nat} {W1 W : World} {pre : List (Nat × Nat)} {t : Nat × Nat} {x : Nat} (h : ofI N W1 pre W) (hx : (oftP pre)[t.1]? = some x) :
    KeepsOthers W (W.setCell ⟨N + 1, t.1, none⟩ (.int .i64 ((x : Int) + 1))) ∧ KpB N (N + 2) W (W.setCell ⟨N + 1, t.1, none⟩ (.int .i64 ((x : Int) + 1))) ∧ ofI N W1 (pre ++ [t]) (W.setCell ⟨N + 1, t.1, none⟩ (.int .i64 ((x : Int) + 1))) := by
  have hg : (oftP pre).getD t.1 0 = x := by rw [List.getD, hx]; rfl
  have hs : (W.setCell ⟨N + 1, t.1, none⟩ (.int .i64 ((x : Int) + 1))).heap[N + 2]? = W.heap[N + 2]? := Below.heap_setCell _ _ _ _ (by show N + 2 ≠ N + 1; omega)
  refine ⟨KeepsOthers.setCell _ _ _, ⟨(Below.refl N W).setCell (p := ⟨N + 1, t.1, none⟩) (Nat.le_succ N) _, fun k o hk _ hkb hno => ?_, fun k hk => ?_, by simp [World.setCell]⟩, ?_, hs.trans h.2.1, h.2.2.setCell (p := ⟨N + 1, t.1, none⟩) (Nat.le_refl _) _⟩
  · refine (Below.heap_setCell _ _ _ k (fun e => hno ?_)).trans hk
    have e2 : k = N + 1 := e
    rw [ownOf_box h.2.1, e2]
    rfl
  · rw [ownOf_block hs] at hk
    exact ⟨.inl hk, .inl hk⟩
  · rw [oftP_snoc, hg]
    exact h.1.set _ _
theorem part_lt {ls : List Nat} (hv : ∀ x ∈ ls, x ≤ 15) {t : Nat × Nat} (h : t ∈ partsP ls 0) : t.1 < 19 := partsP_all hv t h
/-- What the rest of Put keeps: the writer, and what else there is. -/
structure PutI (S : Nat → Prop) (W6 : World) (q base : Nat) (S' : Nat → Prop) (M : List Bool) (X : World) : Prop where
  wr : WrS X q base S' M
  mod : Mod S W6 X
  own : ∀ k, S' k → S k ∨ W6.heap.size ≤ k
section
variable {S S' S2 : Nat → Prop} {W6 X Y : World} {q base : Nat} {M M2 : List Bool}
theorem PutI.next (h : PutI S W6 q base S' M X) (hw : WrS Y q base S2 M2) (hm : Mod S' X Y) (hs : ∀ k, S2 k → S' k ∨ X.heap.size ≤ k) : PutI S W6 q base S2 M2 Y :=
  ⟨hw, h.mod.trans hm h.own, fun k hk => by
    rcases hs k hk with h1 | h1
    · exact h.own k h1
    · exact .inr (Nat.le_trans h.mod.size h1)⟩
theorem PutI.below (h : PutI S W6 q base S' M X) (hb : Below X.heap.size X Y) : PutI S W6 q base S' M Y :=
  ⟨h.wr.keep (Mod.of_below hb) (fun _ _ h => h), h.mod.trans (Mod.of_below hb) (fun _ h => h.elim), h.own⟩
/-- Blocks that are no cells turn. -/
theorem PutI.grown (h : PutI S W6 q base S' M X) {row : Option Nat} (hg : X.grownBy Y row) (hr : ∀ r, row = some r → W6.heap.size ≤ r ∧ ∃ o : Obj, X.heap[r]? = some o ∧ o.isCells = false) : PutI S W6 q base S' M Y := by
  have hm : Mod (fun k => row = some k) X Y := ⟨hg.os, hg.tape, hg.output, hg.size, fun k hk hn => hg.block k hk (fun e => hn e.symm)⟩
  obtain ⟨v, _, _, _, _, hc⟩ := wr_own h.wr
  refine ⟨h.wr.keep hm (fun k hk e => ?_), h.mod.trans hm (fun k e => .inr (hr k e).1), h.own⟩
  obtain ⟨o, h1, h2⟩ := hc k hk
  obtain ⟨_, o', h3, h4⟩ := hr k e
  rw [h1] at h3
  cases h3
  rw [h2] at h4
  cases h4
end
theorem PutI.base_ {S S' : Nat → Prop} {w W6 X : World} {q base : Nat} {M : List Bool} (h : PutI S W6 q base S' M X) (hb : Below w.heap.size w W6) : PutI S w q base S' M X :=
  ⟨h.wr, ((Mod.of_below hb).mono (fun _ h => h.elim)).then_ h.mod, fun k hk => (h.own k hk).imp id (fun h1 => Nat.le_trans hb.size h1)⟩
theorem wr_ownOf {X : World} {q base k : Nat} {S : Nat → Prop} {M : List Bool} (h : WrS X q base S M) (hk : ownOf q X = some k) : S k := by
  obtain ⟨v, h1, h2, _⟩ := wr_own h
  unfold ownOf at hk
  rw [h1] at hk
  rw [h2]
  exact .inr hk
theorem wr_not {X : World} {q base k : Nat} {S : Nat → Prop} {M : List Bool} {cs : Array Value} {t : TypeId} (h : WrS X q base S M) (hk : X.heap[k]? = some (.cells cs t (0, 0))) (h1 : 43 ≠ t) (h2 : 5 ≠ t) : ¬ S k := by
  obtain ⟨whole, R, hsp, A, c, hb, hown, rfl⟩ := h
  rintro (hs | hs)
  · have e : k = q := hs
    subst e
    rw [show X.heap[k]? = _ from hb] at hk
    injection hk with hk
    injection hk with _ e2 _
    exact h1 e2
  · exact own_ne hown hk h2 hs
theorem cells_mod {W X : World} {S : Nat → Prop} {A : Option Addr} {xs : List Value} (h : Cells W W.heap.size A xs) (hm : Mod S W X) (hA : ∀ a, A = some a → ¬ S a.block) : Cells X X.heap.size A xs := fun hp => by
  obtain ⟨b, o, e, hb, hc⟩ := h hp
  exact ⟨b, o, e, Nat.lt_of_lt_of_le hb hm.size, fun j u hj => (World.cell?_of_block (a := ⟨b, o + j, none⟩) (hm.block b hb (hA _ e))).trans (hc j u hj)⟩
/-- What the second loop holds. -/
def prI (S : Nat → Prop) (W6 : World) (q base : Nat) (M : List Bool) (zs : List Int) (pre : List (Nat × Nat)) (X : World) : Prop := ∃ S', PutI S W6 q base S' (M ++ partsB zs pre) X
theorem prI_own (B : Nat) (S : Nat → Prop) (W6 : World) (q base : Nat) (M : List Bool) (zs : List Int) (hB : W6.heap.size ≤ B) : OwnFrom B (prI S W6 q base M zs) := fun _ _ _ _ ⟨S', h⟩ hg hr =>
  ⟨S', h.grown hg (fun r e => ⟨Nat.le_trans hB (hr r e).1, (hr r e).2⟩)⟩
theorem lnP_le {ps : List (Nat × Nat)} {k n : Nat} (h : (lnP ps)[k]? = some n) : n ≤ 15 := by
  have h1 := lensW_right (ns := oftP ps) (by rw [oftP_len]; omega) (n : Int) (List.mem_of_getElem? (zN_at h))
  have := (lenB_yes h1).2
  omega
theorem rnput_start {w W6 : World} {S : Nat → Prop} {q base : Nat} {L : List Bool} (h : WrS w q base S L) (hb : Below w.heap.size w W6) : PutI S W6 q base S L W6 :=
  ⟨h.keep (Mod.of_below hb) (fun _ _ h => h), Mod.refl _ _, fun _ h => .inl h⟩
theorem LCa.keep {w w' : World} {n g : Nat} {zs : List Int} {S : Nat → Prop} (h : LCa w n g zs) (hm : Mod S w w') (hS : ∀ k, S k → k < n) : LCa w' n g zs := by
  obtain ⟨A1, A2, A3, c1, c2, c3, m, hcb, hmx, h1, h2, h3, hg, ha⟩ := h
  have hgl := cb_lt hcb
  have key : ∀ {A : Option Addr} {xs : List Value}, (∀ a, A = some a → n ≤ a.block) → Cells w g A xs → Cells w' g A xs := fun hA hc hp => by
    obtain ⟨b, o, e, hb, hcc⟩ := hc hp
    have hnb := hA _ e
    exact ⟨b, o, e, hb, fun j u hj => (World.cell?_of_block (a := ⟨b, o + j, none⟩) (hm.block b (by omega) (fun hs => by have := hS b hs; dsimp only at hnb; omega))).trans (hcc j u hj)⟩
  exact ⟨A1, A2, A3, c1, c2, c3, m, hm.keep hcb (fun hs => by have := hS g hs; omega), hmx, key (fun a e => ha a (.inl e)) h1, key (fun a e => ha a (.inr (.inl e))) h2, key (fun a e => ha a (.inr (.inr e))) h3, hg, ha⟩
theorem parts_mem {ls : List Nat} : ∀ k p, ls.length - p ≤ k → ∀ t ∈ partsP ls p, ∃ j, j < ls.length ∧ t = (numP ls j, manyP ls j)
  | 0, p, h, t, ht => by rw [partsP_end (by omega)] at ht; cases ht
  | k + 1, p, h, t, ht => by
    by_cases hp : p < ls.length
    · have h1 := manyP_pos hp
      rw [partsP_step hp] at ht
      rcases List.mem_cons.1 ht with rfl | ht
      · exact ⟨p, hp, rfl⟩
      · exact parts_mem k _ (by omega) t ht
    · rw [partsP_end hp] at ht
      cases ht
theorem part_bd {ls : List Nat} (hv : ∀ x ∈ ls, x ≤ 15) {t : Nat × Nat} (h : t ∈ partsP ls 0) : t.1 < 19 ∧ (spanP t.1).1 ≤ t.2 ∧ t.2 ≤ ls.length ∧ t.2 - (spanP t.1).1 < 2 ^ (spanP t.1).2 := by
  obtain ⟨j, hj, rfl⟩ := parts_mem ls.length 0 (by omega) t h
  have h1 := numP_le hv j
  have h2 := many_le hj
  refine ⟨?_, span_le_many hv hj, ?_, more_lt hv hj⟩
  · show numP ls j < 19
    omega
  · show manyP ls j ≤ ls.length
    omega
set_option maxRecDepth 100000 in
set_option maxHeartbeats 4000000 in
theorem rnput_any (A : Option Addr) (l c : Nat) (ls : List Nat) (q base : Nat) (S : Nat → Prop) (L : List Bool) (w : World) (hl : ls.length = l) (h1l : 1 ≤ l) (hm : l ≤ 320) (hv : ∀ x ∈ ls, x ≤ 15) (hb : Cells w w.heap.size A (nCs ls))
    (hA : ∀ a, A = some a → ¬ S a.block) (hw : WrS w q base S L) (hL : L.length ≤ 100000000) (hbase : base ≤ w.heap.size) :
    Calls Tryz.prog 36 #[.pointer (some ⟨q, 0, none⟩), .slice A l c] w fun e w' => e = .returned (.int .i64 0) ∧ ∃ S', WrS w' q base S' (L ++ tabP ls) ∧ Mod S w w' ∧ ∀ k, S' k → S k ∨ w.heap.size ≤ k := by
  have HR := Lib.hid (rightL_any A l c (ls.map (fun n : Nat => (n : Int))) w.heap.size)
  have HL := Lib.hid hl
  have HC := Lib.hid hb
  have HV := Lib.hid hv
  have HW := Lib.hid hw
  have HA := Lib.hid hA
  have t1 : decide ((320 : Int) < (l : Int)) = false := decide_eq_false (by omega)
  have t2 : ((l : Int) == 0) = false := by simp; omega
  have HRW : Hid (∀ W, Below w.heap.size w W → _) := fun W (hW : Below w.heap.size w W) => HR.out W (by rw [List.length_map]; exact hl) (by omega) (by rw [nCs_ic]; exact (hb.below hW (Nat.le_refl _)))
  rw [all_right hv] at HRW
  clear hb hl hv hw hA HR
  refine (callsIn_wide (n := 6)).1 ?_
  refine callsIn_of_wp_marks Tryz.func36 rfl trivial ?_ rfl
  simp only [Tryz.ntmps36, List.size_toArray, List.length_cons, List.length_nil, Nat.reduceAdd, Nat.reduceSub, Array.replicate_succ, Array.replicate_zero, List.push_toArray, List.append_toArray, List.nil_append, List.cons_append]
  obtain ⟨W1, hW1⟩ : ∃ W1, w.alloc (.cells #[.pointer (some ⟨q, 0, none⟩)] 45) = W1 := ⟨_, rfl⟩
  have HB1 : Hid (Below w.heap.size w W1) := by show Below _ _ _; rw [← hW1]; exact (Below.refl _ w).alloc (Nat.le_refl _) _
  have HX1 : Hid (Boxed W1 w.heap.size 45 (.pointer (some ⟨q, 0, none⟩))) := by show Boxed _ _ _ _; rw [← hW1]; exact Boxed.new w _ _
  have HZ1 : Hid (W1.heap.size = w.heap.size + 1) := by show _ = _; rw [← hW1]; simp
  have c1 := HX1.out.cell
  obtain ⟨W2, hW2⟩ : ∃ W2, W1.alloc (.cells (madeCells #[.int .i64 0] 19) 3) = W2 := ⟨_, rfl⟩
  have hmk : (Instr.makeSlice 56 (.int .i64 19) (.int .i64 19)).run Tryz.prog W1 = .ok (.slice (some ⟨W1.heap.size, 0, none⟩) 19 19) W2 := by rw [← hW2]; exact wei_make 19 (by omega) W1
  have HN2 : Hid (NB W2 W1.heap.size (List.replicate 19 0)) := by show NB _ _ _; rw [← hW2]; exact wei_made W1 19
  have HB2 : Hid (Below W1.heap.size W1 W2) := by show Below _ _ _; rw [← hW2]; exact (Below.refl _ _).alloc (Nat.le_refl _) _
  have HZ2 : Hid (W2.heap.size = W1.heap.size + 1) := by show _ = _; rw [← hW2]; simp
  clear hW2
  gi_wp2_with (first
    | (refine ⟨trivial, ?_⟩; gi_at_call 52; refine (callsIn_wide.2 (HRW.out _ HB1.out)).mono ?_; rintro e w' ⟨rfl, rfl⟩)
    | (refine ⟨trivial, ?_⟩; gi_at_call 53; refine (callsIn_wide.2 (parts_any _ _ _ _)).mono ?_; rintro e w3 ⟨rfl, hw3⟩; have HW3 := Lib.hid hw3; clear hw3))
  obtain ⟨N, hN⟩ : ∃ N, w.heap.size = N := ⟨_, rfl⟩
  have HNN := Lib.hid hN
  have hz1 : W1.heap.size = N + 1 := by rw [HZ1.out, hN]
  have hz2 : W2.heap.size = N + 2 := by rw [HZ2.out, hz1]
  have hz3 : w3.heap.size = N + 4 := by rw [← HW3.out]; simp [hz2]
  have hb23 : Below (N + 2) W2 w3 := by rw [← HW3.out, ← hz2]; exact ((Below.refl _ W2).alloc (Nat.le_refl _) _).alloc (by simp) _
  have HB13 : Hid (Below (N + 1) W1 w3) := by
    have h := HB2.out
    rw [hz1] at h
    exact h.trans (hb23.mono (by omega))
  have HV3 : Hid (Boxed w3 (N + 2) 56 (.slice (some ⟨N + 1, 0, none⟩) 19 19)) := by
    show Boxed _ _ _ _
    rw [← HW3.out, ← hz2, ← hz1]
    exact (Boxed.new W2 _ _).alloc _
  have HC3 : Hid (Boxed w3 (N + 3) 56 (.slice A l c)) := by
    show Boxed _ _ _ _
    rw [← HW3.out]
    have h := Boxed.new (W2.alloc (.cells #[.slice (some ⟨W1.heap.size, 0, none⟩) 19 19] 56)) 56 (.slice A l c)
    rw [World.size_alloc, hz2] at h
    exact h
  have HN3 : Hid (NB w3 (N + 1) (List.replicate 19 0)) := by
    have h := HN2.out
    rw [hz1] at h
    exact h.below hb23 (by omega)
  have hAN : ∀ a, A = some a → a.block < N := fun a ha => by
    obtain ⟨b, o, hab, hbl, _⟩ := HC.out (by rw [nCs_len, HL.out]; omega)
    rw [ha] at hab
    cases hab
    rw [← hN]
    exact hbl
  have hb1 := HB1.out
  have HCW : Hid (∀ W, Below N w W → Cells W N A (nCs ls)) := fun W hW => by
    have h := HC.out
    rw [hN] at h
    exact h.below hW (Nat.le_refl _)
  have HBN : Hid (Below N w W1) := by rw [← hN]; exact hb1
  have HSEQ := Lib.hid (parts_seqS N (N + 2) (N + 3) A l c ls w3 HL.out hm HV.out ((HCW.out w3 (HBN.out.trans (HB13.out.mono (by omega)))).more (by omega)) (by omega) (by omega) (by omega) (fun a ha => by have := hAN a ha; omega)
    (fun k hk => by
      have e : N + 1 = k := by rw [ownOf_box HV3.out] at hk; simpa [Value.ownBlock] using hk
      exact ⟨by omega, by omega, fun a ha => by have := hAN a ha; omega⟩) HC3.out)
  have HAN := Lib.hid hAN
  have HZ3 := Lib.hid hz3
  have HX1N : Hid (Boxed W1 N 45 (.pointer (some ⟨q, 0, none⟩))) := by have h := HX1.out; rw [hN] at h; exact h
  have HS1 := Lib.hid hz1
  rw [hz2, hz1, hN, show N + 2 + 1 = N + 3 from rfl]
  clear hz1 hz2 hz3 hN hb1 hb23 hAN HW3 HB1 HB2 HX1 HZ1 HZ2 HN2 c1 HRW hmk hW1 HC
  refine wpIn_rangeFunc_ownH rfl (by omega) (gf := 75) (lb := #[.pointer (some ⟨N + 3, 0, none⟩)]) rfl trivial (enters_of Tryz.func75 (by kernel_rfl) rfl) HSEQ.out
    (fun h k => h.trans k) (fun W l o o' hl ho hc _ => KpB.putObj W l o o' (by have := HZ3.out; omega) (by have := HZ3.out; omega) ho hc) (Below.refl _ _) (fun _ => rfl)
    (fun (pre : List (PtIn ls)) W => ofI N W1 (pre.map (·.1)) W) (fun _ _ _ => False) (fun s => ofI_own N _ W1 (by rw [HS1.out]; exact Nat.le_refl _) (by have := HZ3.out; omega) _) (fun _ _ _ _ _ h _ _ => h)
    ⟨HN3.out, HV3.out, HB13.out⟩
    (fun (t : PtIn ls) a' W => ∃ Bx, W.heap[Bx]? = some (.cells #[.int .i64 (t.1.1 : Int), .int .i64 (t.1.2 : Int)] 112) ∧ a' = { tmps := (.pointer (some ⟨q, 0, none⟩) :: .slice A l c :: .pointer (some ⟨N, 0, none⟩) :: undef :: .int .i64 0 :: .pointer (some ⟨N + 2, 0, none⟩) :: .pointer (some ⟨Bx, 0, none⟩) :: undef :: undef :: undef :: undef :: undef :: undef :: undef :: undef :: undef :: .slice A l c :: .int .i64 (l : Int) :: .bool false :: .bool false :: .slice A l c :: .int .i64 (l : Int) :: .bool false :: .bool false :: .slice A l c :: .bool true :: .bool false :: .bool false :: .pointer (some ⟨q, 0, none⟩) :: .bool false :: .bool false :: .slice (some ⟨N + 1, 0, none⟩) 19 19 :: .slice A l c :: .func (.func 75) #[] #[.pointer (some ⟨N + 3, 0, none⟩)] :: ptV t.1 :: undef :: undef :: undef :: undef :: undef :: undef :: undef :: undef :: undef :: undef :: undef :: undef :: undef :: undef :: undef :: undef :: undef :: undef :: undef :: undef :: undef :: undef :: undef :: undef :: undef :: undef :: undef :: undef :: undef :: undef :: undef :: undef :: undef :: undef :: undef :: undef :: undef :: undef :: undef :: undef :: undef :: undef :: undef :: undef :: undef :: undef :: undef :: undef :: undef :: undef :: undef :: undef :: undef :: undef :: undef :: []).toArray, defers := [] })
    (fun t a' _ X Y row hs hg hr => by
      obtain ⟨Bx, h1, h2⟩ := hs
      refine ⟨Bx, (hg.block Bx (Array.getElem?_eq_some_iff.1 h1).1 (fun e => ?_)).trans h1, h2⟩
      obtain ⟨_, o, ho, hc⟩ := hr Bx e.symm
      rw [h1] at ho; cases ho; cases hc)
    ?assign ?body ?done ?stop
  case assign =>
    rintro gy pre ⟨⟨tn, td⟩, hmem⟩ W K hi hK
    simp only [ptV]
    gi_wp2
    exact hK _ _ ((KeepsOthers.alloc _ _).from _) (kpb_alloc _ (by have := hi.2.1.lt; omega) hi.2.1.lt) (hi.alloc' _) ⟨W.heap.size, heap_alloc_new W _, rfl⟩
  case body =>
    rintro gy pre ⟨⟨tn, td⟩, hmem⟩ a' W hlb ⟨r, hr⟩ hi ⟨Bx, hx, rfl⟩ hlt
    have hv := hi.2.1
    have c5 := hv.cell
    have k0 : W.cell? ⟨Bx, 0, none⟩ = some (.int .i64 (tn : Int)) := cell_of_row W _ 0 _ _ _ hx
    have hk := part_lt HV.out hmem
    obtain ⟨x, hx2⟩ : ∃ x, (oftP (pre.map (·.1)))[tn]? = some x := ⟨_, List.getElem?_eq_getElem (by rw [oftP_len]; exact hk)⟩
    have k1 : W.cell? ⟨N + 1, tn, none⟩ = some (.int .i64 (x : Int)) := NB.cell hi.1 hx2
    have hf : W.frozen? ⟨N + 1, tn, none⟩ = false := NB.free hi.1
    have hxb : x ≤ 320 := by
      have h1 := oftP_le _ x (List.mem_of_getElem? hx2)
      rw [List.length_map] at h1
      omega
    have HI := Lib.hid (ofI_step (t := (tn, td)) hi hx2)
    clear hi hx hv hx2
    simp only [ptV]
    gi_wp2
    obtain ⟨h1, h2, h3⟩ := HI.out
    refine ⟨h1.from _, h2, ?_⟩
    show ofI N W1 ((pre ++ [(⟨(tn, td), hmem⟩ : PtIn ls)]).map (·.1)) _
    rw [List.map_append]
    exact h3
  case done =>
    rintro D ys W hD hS hi hK
    rw [hS] at hi
    have HI := Lib.hid hi
    have HK := Lib.hid hK
    have c5 := hi.2.1.cell
    clear hi hK hS HSEQ HN3 HV3 HC3 HB13
    obtain ⟨ps, hps⟩ : ∃ ps, partsP ls 0 = ps := ⟨_, rfl⟩
    have HPS := Lib.hid hps
    rw [hps] at HI
    have HRT : Hid (caR (zN (lnP ps)) = true) := by
      show _ = _
      obtain ⟨t, ht⟩ := partsP_ne (ls := ls) (by rw [HL.out]; omega)
      have h19 := part_lt HV.out ht
      rw [hps] at ht
      exact lnP_right ht h19
    have hpl : ps.length ≤ 320 := by
      rw [← hps]
      have := partsP_len ls ls.length 0 (by omega)
      have := HL.out
      omega
    clear hps
    have HIT := HI.out
    have hln := lengths_ok (some ⟨N + 1, 0, none⟩) 19 19 (oftP ps) W.heap.size W (oftP_len ps) (by omega) (by
      have h := Cells.of_own (HIT.1.own (base := N + 1) (Nat.le_refl _) (by rw [oftP_len]; decide))
      exact h) (Nat.le_refl _) (fun n hn => by have := oftP_le ps n hn; omega)
    have HLN := Lib.hid hln
    have hwl : IntKind.u32.wrap (l : Int) = (l : Int) := IntWalk.u32_in _ (by omega)
    have hln2 := HNN.out
    have hwN : N + 2 < W.heap.size := HIT.2.1.lt
    have HBW : Hid (Below N w W) := HBN.out.trans (HIT.2.2.mono (Nat.le_succ N))
    have HXW : Hid (Boxed W N 45 (.pointer (some ⟨q, 0, none⟩))) := (HIT.2.2.block N (by omega)).trans HX1N.out
    clear HIT hln HX1N HI
    gi_wp2_with (first
      | (refine ⟨trivial, ?_⟩; gi_at_call 35; refine (callsIn_wide.2 HLN.out).mono ?_; rintro e w4 ⟨A4, k4, rfl, hown4, hb4⟩; have HO4 := Lib.hid hown4; have HB4 := Lib.hid hb4; clear hown4 hb4)
      | (refine ⟨trivial, ?_⟩; gi_at_call 37; refine (callsIn_wide.2 (new_low A4 19 k4 (zN (lnP ps)) w4.heap.size w4 (by rw [zN_len, lnP_len]) (by omega) (by rw [show (zN (lnP ps)).map ic = nCs (lnP ps) from nCs_ic _]; exact Cells.of_own HO4.out) (Nat.le_refl _) HRT.out)).mono ?_; rintro e w5 ⟨g, rfl, hlc, hb5⟩; have HLC := Lib.hid hlc; have HB5 := Lib.hid hb5; clear hlc hb5; obtain ⟨W6, hW6⟩ : ∃ W6, w5.alloc (.cells #[.pointer (some ⟨g, 0, none⟩)] 59) = W6 := ⟨_, rfl⟩; have hB56 : Below w5.heap.size w5 W6 := (by rw [← hW6]; exact (Below.refl _ _).alloc (Nat.le_refl _) _); have HX9 : Hid (Boxed W6 w5.heap.size 59 (.pointer (some ⟨g, 0, none⟩))) := (by show Boxed _ _ _ _; rw [← hW6]; exact Boxed.new w5 _ _); have HZ6 : Hid (W6.heap.size = w5.heap.size + 1) := (by show _ = _; rw [← hW6]; simp); have HS45 : Hid (W.heap.size ≤ w4.heap.size ∧ w4.heap.size ≤ w5.heap.size) := ⟨HB4.out.size, HB5.out.size⟩; have HBX : Hid (Below W.heap.size W W6) := (HB4.out.trans (HB5.out.mono HB4.out.size)).trans (hB56.mono (Nat.le_trans HB4.out.size HB5.out.size)); have HX6 : Hid (Boxed W6 N 45 (.pointer (some ⟨q, 0, none⟩))) := (HBX.out.block N (by omega)).trans HXW.out; have HLC6 := Lib.hid (HLC.out.keep (Mod.of_below hB56) (fun _ h => h.elim)); have HO6 := Lib.hid (own_keep (own_keep HO4.out (Mod.of_below HB5.out) (fun _ _ h => h)) (Mod.of_below hB56) (fun _ _ h => h)); have HK6 := Lib.hid ((HBX.out.block D (Array.getElem?_eq_some_iff.1 HK.out).1).trans HK.out); have HBW6 : Hid (Below N w W6) := HBW.out.trans (HBX.out.mono (by omega)); have HPI := Lib.hid (rnput_start HW.out (by rw [HNN.out]; exact HBW6.out)); have c2 := HX6.out.cell; have HP6 := Lib.hid (wput_any q base S L (l : Int) 9 W6 HPI.out.wr (by omega) (by have := HBW6.out.size; omega) (by omega) (by omega) (by omega) (by omega)); clear hB56 HLC HB4 HB5 HO4 c5)
      | (refine ⟨trivial, ?_⟩; gi_at_call 40; refine (callsIn_wide.2 HP6.out).mono ?_; rintro e w7 ⟨rfl, S7, hw7, hm7, hs7⟩; rw [show cnt 9 = 9 from rfl, Int.toNat_natCast] at hw7; have HP7 := Lib.hid (HPI.out.next hw7 hm7 hs7); clear hw7 hm7 hs7 HP6 c2))
    obtain ⟨L1, hL1⟩ : ∃ L1, L ++ bitsOf l 9 = L1 := ⟨_, rfl⟩
    have HL1 := Lib.hid hL1
    have hl1 : L1.length ≤ 100000009 := by rw [← hL1, List.length_append, bitsOf_length]; omega
    rw [hL1] at HP7
    obtain ⟨zs, hzs⟩ : ∃ zs, zN (lnP ps) = zs := ⟨_, rfl⟩
    have HZS := Lib.hid hzs
    rw [hzs] at HRT HLC6
    clear hL1 hzs
    have HSN : Hid (∀ k, S k → k < N) := fun k hk => by have := HW.out.lt k hk; omega
    have hz6 := HZ6.out
    have hs45 := HS45.out
    gi_loopw [59] (fun i wr => ∃ (k : Nat) (S' : Nat → Prop), k ≤ 19 ∧ i = .int .i64 (k : Int) ∧ PutI S W6 q base S' (L1 ++ lensB ((lnP ps).take k)) wr) (fun i _ => 19 - (intOf i).toNat)
    case atStart => exact ⟨0, S7, by omega, rfl, by simpa [lensB] using HP7.out⟩
    case round =>
      obtain ⟨k, S8, hk, rfl, hpi⟩ := hrel
      have HPI8 := Lib.hid hpi
      clear hpi HP7 HPI
      have c2 : wr.cell? ⟨N, 0, none⟩ = some (.pointer (some ⟨q, 0, none⟩)) := Boxed.cell (HPI8.out.mod.keep HX6.out (fun h => by have := HSN.out N h; omega))
      by_cases hk19 : k < 19
      · obtain ⟨n, hn⟩ : ∃ n, (lnP ps)[k]? = some n := ⟨_, List.getElem?_eq_getElem (by rw [lnP_len]; exact hk19)⟩
        have hn15 : n ≤ 15 := lnP_le hn
        have hO := Cells.of_own (own_keep HO6.out HPI8.out.mod (fun j hj hs => by have := HSN.out j hs; have := own_base HO6.out j hj; omega))
        obtain ⟨b, o, rfl, hbB, hc⟩ := hO (by rw [nCs_len]; show 0 < (lnP ps).length; rw [lnP_len]; omega)
        have c0 : wr.cell? ⟨b, o + k, none⟩ = some (.int .i64 (n : Int)) := hc k _ (nCs_at hn)
        have hwn : IntKind.u32.wrap (n : Int) = (n : Int) := IntWalk.u32_in _ (by omega)
        have hlb : (lensB ((lnP ps).take k)).length ≤ 76 := by rw [lensB_len, List.length_take]; omega
        have HP8 := Lib.hid (wput_any q base S8 (L1 ++ lensB ((lnP ps).take k)) (n : Int) 4 wr HPI8.out.wr (by rw [List.length_append]; omega) (by have := HPI8.out.mod.size; have := HBW6.out.size; omega) (by omega) (by omega) (by omega) (by omega))
        rw [show cnt 4 = 4 from rfl, Int.toNat_natCast, List.append_assoc, ← lensB_up hn] at HP8
        clear hc hn hO
        gi_wp2_with (refine ⟨trivial, ?_⟩; gi_at_call 40; refine (callsIn_wide.2 HP8.out).mono ?_; rintro e w9 ⟨rfl, S9, hw9, hm9, hs9⟩; have HP9 := Lib.hid (HPI8.out.next hw9 hm9 hs9); clear hw9 hm9 hs9)
        exact ⟨⟨k + 1, S9, by omega, by go_num, HP9.out⟩, by simp [intOf]; omega⟩
      · obtain rfl : k = 19 := by omega
        rw [show (lnP ps).take 19 = lnP ps from List.take_of_length_le (by rw [lnP_len]; exact Nat.le_refl _)] at HPI8
        obtain ⟨wq, hwq⟩ : ∃ wq, wq = wr := ⟨_, rfl⟩
        subst hwq
        gi_wp2_with (refine ⟨trivial, ?_⟩; gi_at_call 53; refine (callsIn_wide.2 (parts_any _ _ _ _)).mono ?_; rintro e w8 ⟨rfl, hw8⟩; have HW8 := Lib.hid hw8; clear hw8)
        obtain ⟨bx, hbx⟩ : ∃ bx, wq.heap.size = bx := ⟨_, rfl⟩
        have hz8 : w8.heap.size = bx + 1 := by rw [← HW8.out, ← hbx]; simp
        have hb8 : Below wq.heap.size wq w8 := by rw [← HW8.out]; exact (Below.refl _ _).alloc (Nat.le_refl _) _
        have HX8 : Hid (Boxed w8 bx 56 (.slice A l c)) := by show Boxed _ _ _ _; rw [← HW8.out, ← hbx]; exact Boxed.new wq _ _
        have HP8 := Lib.hid (HPI8.out.below hb8)
        obtain ⟨M2, hM2⟩ : ∃ M2, L1 ++ lensB (lnP ps) = M2 := ⟨_, rfl⟩
        have HM2 := Lib.hid hM2
        have hm2 : M2.length ≤ 100000085 := by rw [← hM2, List.length_append, lensB_len, lnP_len]; omega
        rw [hM2] at HP8
        have hq8 : q < bx := by rw [← hbx]; exact HPI8.out.wr.lt q (by obtain ⟨v, _, h2, _⟩ := wr_own HPI8.out.wr; rw [h2]; exact .inl rfl)
        have hsq : S q := by obtain ⟨v, _, h2, _⟩ := wr_own HW.out; rw [h2]; exact .inl rfl
        have h68 : W6.heap.size ≤ bx := by rw [← hbx]; exact HPI8.out.mod.size
        have hSEQ := parts_seqS 0 q bx A l c ls w8 HL.out hm HV.out (cells_mod ((HCW.out W6 HBW6.out).more (by have := HBW6.out.size; omega)) HP8.out.mod HA.out) (Nat.zero_le _) (by omega) (by omega)
          (fun a ha e => HA.out a ha (e ▸ hsq)) (fun k hk => by
            have h1 := wr_ownOf HP8.out.wr hk
            have h2 := HPI8.out.wr.lt k h1
            refine ⟨by omega, by omega, fun a ha e => ?_⟩
            rcases HPI8.out.own k h1 with h3 | h3
            · exact HA.out a ha (e ▸ h3)
            · have := HAN.out a ha
              have := HBW6.out.size
              omega) HX8.out
        have HSEQ := Lib.hid hSEQ
        have HZ8 := Lib.hid hz8
        rw [hbx]
        clear hSEQ hz8 hb8 hM2 hbx HW8 HPI8 HX8 hq8
        refine wpIn_rangeFunc_ownH rfl (by omega) (gf := 75) (lb := #[.pointer (some ⟨bx, 0, none⟩)]) rfl trivial (enters_of Tryz.func75 (by kernel_rfl) rfl) HSEQ.out
          (fun h k => h.trans k) (fun W l o o' hl ho hc _ => KpB.putObj W l o o' (Nat.zero_le _) (by have := HZ8.out; have := HSN.out q hsq; omega) ho hc) (Below.refl _ _) (fun _ => rfl)
          (fun (pre : List (PtIn ls)) X => prI S W6 q base M2 zs (pre.map (·.1)) X) (fun _ _ _ => False) (fun s => prI_own _ S W6 q base M2 zs (by have := HZ8.out; omega) _) (fun _ _ _ _ _ h _ _ => h)
          ⟨S8, by simpa [partsB] using HP8.out⟩
          (fun (t : PtIn ls) a' W => ∃ Bx, W.heap[Bx]? = some (.cells #[.int .i64 (t.1.1 : Int), .int .i64 (t.1.2 : Int)] 112) ∧ a' = { tmps := (.pointer (some ⟨q, 0, none⟩) :: .slice A l c :: .pointer (some ⟨N, 0, none⟩) :: undef :: .int .i64 0 :: .pointer (some ⟨N + 2, 0, none⟩) :: undef :: .slice A4 19 k4 :: .int .i64 0 :: .pointer (some ⟨w5.heap.size, 0, none⟩) :: .int .i64 0 :: undef :: u12 :: .pointer (some ⟨Bx, 0, none⟩) :: undef :: undef :: .slice A l c :: .int .i64 (l : Int) :: .bool false :: .bool false :: .slice A l c :: .int .i64 (l : Int) :: .bool false :: .bool false :: .slice A l c :: .bool true :: .bool false :: .bool false :: .pointer (some ⟨q, 0, none⟩) :: .bool false :: .bool false :: .slice (some ⟨N + 1, 0, none⟩) 19 19 :: .slice A l c :: .func (.func 75) #[] #[.pointer (some ⟨N + 3, 0, none⟩)] :: undef :: undef :: undef :: undef :: undef :: undef :: undef :: undef :: .tuple #[.slice A4 19 k4, .int .i64 0] :: .slice (some ⟨N + 1, 0, none⟩) 19 19 :: .tuple #[.slice A4 19 k4, .int .i64 0] :: .slice A4 19 k4 :: .int .i64 0 :: .tuple #[.pointer (some ⟨g, 0, none⟩), .int .i64 0] :: .slice A4 19 k4 :: .tuple #[.pointer (some ⟨g, 0, none⟩), .int .i64 0] :: .pointer (some ⟨g, 0, none⟩) :: .int .i64 0 :: .pointer (some ⟨q, 0, none⟩) :: .slice A l c :: .int .i64 (l : Int) :: .int .u32 (l : Int) :: .tuple #[] :: .slice A4 19 k4 :: .int .i64 19 :: .int .i64 19 :: .bool false :: u61 :: u62 :: u63 :: u64 :: u65 :: u66 :: u67 :: .slice A l c :: .func (.func 75) #[] #[.pointer (some ⟨bx, 0, none⟩)] :: ptV t.1 :: undef :: undef :: undef :: undef :: undef :: undef :: undef :: undef :: undef :: undef :: undef :: undef :: undef :: undef :: undef :: undef :: undef :: undef :: undef :: []).toArray, defers := [] })
          (fun t a' _ X Y row hs hg hr => by
            obtain ⟨Bx, h1, h2⟩ := hs
            refine ⟨Bx, (hg.block Bx (Array.getElem?_eq_some_iff.1 h1).1 (fun e => ?_)).trans h1, h2⟩
            obtain ⟨_, o, ho, hc⟩ := hr Bx e.symm
            rw [h1] at ho; cases ho; cases hc)
          ?assign2 ?body2 ?done2 ?stop2
        case assign2 =>
          rintro gy pre ⟨⟨tn, td⟩, hmem⟩ W K ⟨S9, h9⟩ hK
          have hqW : q < W.heap.size := h9.wr.lt q (by obtain ⟨v, _, h2, _⟩ := wr_own h9.wr; rw [h2]; exact .inl rfl)
          simp only [ptV]
          gi_wp2
          exact hK _ _ ((KeepsOthers.alloc _ _).from _) (kpb_alloc _ (Nat.zero_le _) hqW) ⟨S9, h9.below ((Below.refl _ _).alloc (Nat.le_refl _) _)⟩ ⟨W.heap.size, heap_alloc_new W _, rfl⟩
        case body2 =>
          rintro gy pre ⟨⟨tn, td⟩, hmem⟩ a' W hlb ⟨r, hr⟩ ⟨S9, h9⟩ ⟨Bx, hx, rfl⟩ hlt
          obtain ⟨ha19, ha1, ha2, ha3⟩ := part_bd HV.out hmem
          have hsp := spanP_le tn
          have HSP := Lib.hid (fun V => span_any tn V)
          have HBT : Hid (partB zs (tn, td) = symB zs (tn : Int) ++ bitsOf (td - (spanP tn).1) (spanP tn).2) := rfl
          dsimp only at ha19 ha1 ha2 ha3
          obtain ⟨⟨sa, sb⟩, hab⟩ : ∃ ab, spanP tn = ab := ⟨_, rfl⟩
          rw [hab] at ha1 ha3 hsp HSP HBT
          dsimp only at ha1 ha3 hsp HSP HBT
          obtain ⟨dm, hdm⟩ : ∃ dm, td - sa = dm := ⟨_, rfl⟩
          have hdm2 : (td : Int) - (sa : Int) = (dm : Int) := by omega
          rw [hdm] at HBT
          have hdl : dm ≤ 320 := by have := HL.out; omega
          have hwd : IntKind.u32.wrap (dm : Int) = (dm : Int) := IntWalk.u32_in _ (by omega)
          have c9 : W.cell? ⟨w5.heap.size, 0, none⟩ = some (.pointer (some ⟨g, 0, none⟩)) := Boxed.cell (h9.mod.keep HX9.out (fun h => by have := HSN.out _ h; omega))
          have c2 : W.cell? ⟨N, 0, none⟩ = some (.pointer (some ⟨q, 0, none⟩)) := Boxed.cell (h9.mod.keep HX6.out (fun h => by have := HSN.out N h; omega))
          have k0 : W.cell? ⟨Bx, 0, none⟩ = some (.int .i64 (tn : Int)) := cell_of_row W _ 0 _ _ _ hx
          have hml : (M2 ++ partsB zs (pre.map (·.1))).length ≤ 100010000 := by
            have h1 := partsB_len HRT.out (pre.map (·.1))
            rw [List.length_map] at h1
            rw [List.length_append]
            omega
          have hbW : base ≤ W.heap.size := by have := h9.mod.size; have := HBW6.out.size; omega
          have HP8 := Lib.hid (put8_any g q base zs S9 _ (tn : Int) W HRT.out (HLC6.out.keep h9.mod (fun k hk => by have := HSN.out k hk; omega)).lc h9.wr (by omega) hbW)
          have HSL := symB_len HRT.out (tn : Int)
          have H9 := Lib.hid h9
          have HX := Lib.hid hx
          clear h9 hx hab hdm ha1 ha3
          simp only [ptV]
          gi_wp2_with (first
            | (refine ⟨trivial, ?_⟩; gi_at_call 30; refine (CallsIn.inRound gy (callsIn_wide.2 HP8.out)).mono ?_; rintro e X2 ⟨rfl, S2, hw2, hm2, hs2⟩; have hp2 := H9.out.next hw2 hm2 hs2; have hx2 := hm2.keep HX.out (wr_not H9.out.wr HX.out (by decide) (by decide)); have HK2 := Lib.hid (kpb_wr H9.out.wr hw2 hm2 hs2 (Nat.zero_le _) (Nat.zero_le _) (Nat.zero_le _)); have HO2 := Lib.hid (wr_kept H9.out.wr hm2); have k0' : X2.cell? ⟨Bx, 0, none⟩ = some (.int .i64 (tn : Int)) := cell_of_row X2 _ 0 _ _ _ hx2; have k1' : X2.cell? ⟨Bx, 1, none⟩ = some (.int .i64 (td : Int)) := cell_of_row X2 _ 1 _ _ _ hx2; have c2' : X2.cell? ⟨N, 0, none⟩ = some (.pointer (some ⟨q, 0, none⟩)) := Boxed.cell (hp2.mod.keep HX6.out (fun h => by have := HSN.out N h; omega)); have HWP := Lib.hid (wput_any q base S2 _ (dm : Int) (sb : Int) X2 hw2 (by rw [List.length_append]; omega) (by have := hm2.size; omega) (by omega) (by omega) (by omega) (by omega)); rw [cnt_nat (k := sb) (by omega), Int.toNat_natCast, List.append_assoc, ← HBT.out, List.append_assoc] at HWP; have HP2 := Lib.hid hp2; clear hw2 hm2 hs2 hp2 hx2 c2 c9 k0)
            | (refine ⟨trivial, ?_⟩; gi_at_call 54; refine (CallsIn.inRound gy (callsIn_wide.2 (HSP.out _))).mono ?_; rintro e w' ⟨rfl, rfl⟩)
            | (refine ⟨trivial, ?_⟩; gi_at_call 40; refine (CallsIn.inRound gy (callsIn_wide.2 HWP.out)).mono ?_; rintro e X3 ⟨rfl, S3, hw3, hm3, hs3⟩; have HP3 := Lib.hid (HP2.out.next hw3 hm3 hs3); have HK3 := Lib.hid (HK2.out.trans (kpb_wr HP2.out.wr hw3 hm3 hs3 (Nat.zero_le _) (Nat.zero_le _) (Nat.zero_le _))); have HO3 := Lib.hid (HO2.out.trans (wr_kept HP2.out.wr hm3)); clear hw3 hm3 hs3))
          refine ⟨HO3.out.from _, HK3.out, S3, ?_⟩
          rw [List.map_append, List.map_cons, List.map_nil, partsB_snoc]
          exact HP3.out
        case stop2 =>
          rintro D c pre W _ _ h _
          exact h.elim
        case done2 =>
          rintro D2 ys2 X hD2 hS2 ⟨S9, h9⟩ hK2
          rw [hS2, HPS.out] at h9
          have H9 := Lib.hid h9
          have HK2 := Lib.hid hK2
          have HKD := Lib.hid (h9.mod.keep HK6.out (fun h => by have := HSN.out _ h; have := HZ3.out; omega))
          clear h9 hS2 hK2
          have hd6 := (Array.getElem?_eq_some_iff.1 HK6.out).1
          have hne : D ≠ D2 := by have := HZ8.out; omega
          gi_wp2
          refine ⟨by simp, .inl ⟨_, _, rfl, run_takeDeferred HK2.out, ⟨by simp, .inl ⟨_, _, rfl, run_takeDeferred ((World.putObj_heap_other hne).trans HKD.out), ?_⟩⟩⟩⟩
          refine ⟨_, results_tmp rfl _ _ _, rfl, S9, ?_⟩
          have hb0 : Below w.heap.size w W6 := by rw [HNN.out]; exact HBW6.out
          have h1 := H9.out.base_ hb0
          have h2 := h1.grown (grownBy_putObj' X D2 (.deferred none)) (fun r e => by cases e; exact ⟨by have := HZ8.out; have := HBW6.out.size; omega, _, HK2.out, rfl⟩)
          have h3 := h2.grown (grownBy_putObj' _ D (.deferred none)) (fun r e => by cases e; exact ⟨by have := HZ3.out; omega, _, (World.putObj_heap_other hne).trans HKD.out, rfl⟩)
          refine ⟨?_, h3.mod, fun k hk => by rw [← HNN.out]; exact h3.own k hk⟩
          have h4 := h3.wr
          rw [← HM2.out, ← HL1.out] at h4
          rw [tabP, HL.out, HPS.out, HZS.out, ← List.append_assoc, ← List.append_assoc]
          exact h4
  case stop =>
    rintro D c pre W _ _ h _
    exact h.elim
end Go.Proofs.YtaknladkodibaaaGreat
/- Layer 9, plainly: what is put is taken, and just that. -/
namespace Go.Proofs.YtaknladkodibaaaGreat
open BitsP

end Go.Proofs.YtaknladkodibaaaGreat
/- Layer 13, plainly: what is put is taken. -/
namespace Go.Proofs.YtaknladkodibaaaGreat
open BitsP SymP

theorem lensW_le {ws : List Nat} (hl : ws.length ≤ 320) : ∀ y ∈ lensW ws, y ≤ 15 := fun y hy => by
  obtain ⟨k, hk⟩ := List.mem_iff_getElem?.1 hy
  have hkl := (List.getElem?_eq_some_iff.1 hk).1
  rw [lensW_len] at hkl
  have h2 := (lensW_pos (ns := ws) (by omega) (List.getElem?_eq_getElem hkl)).2
  rw [List.getD, hk] at h2
  exact h2
end Go.Proofs.YtaknladkodibaaaGreat
/- Layer 9: what a part says; a part and a code are taken. -/
namespace Go.Proofs.YtaknladkodibaaaGreat
open Go.RowKit BitsP

end Go.Proofs.YtaknladkodibaaaGreat
/- Layer 9: the lengths of the numbers' codes are taken. -/
namespace Go.Proofs.YtaknladkodibaaaGreat
open Go.RowKit BitsP

theorem NB.cellsT {w : World} {g : Nat} {ns : List Nat} (h : NB w g ns) : Cells w w.heap.size (some ⟨g, 0, none⟩) (nCs ns) := fun _ =>
  ⟨g, 0, rfl, h.lt, fun j u hu => by
    rw [Nat.zero_add, cell_of_row w g j _ _ _ h, ← Array.getElem?_toList]
    exact hu⟩
end Go.Proofs.YtaknladkodibaaaGreat
