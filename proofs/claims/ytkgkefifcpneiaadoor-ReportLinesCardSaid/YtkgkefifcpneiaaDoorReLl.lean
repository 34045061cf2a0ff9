/- Layer 33: ReportLines. -/
import Derived.Test.YtkgkefifcpneiaaDoorReRt
import Derived.Test.YtkgkefifcpneiaaDoorReAk
import Derived.Test.YtkgkefifcpneiaaDoorReSL
import Derived.Test.YtkgkefifcpneiaaDoorReTab
import Derived.Deep.RegionHeld3
namespace Go.Proofs.YtkgkefifcpneiaaDoor
open Go.RowKit

theorem refElem33 : Elem Tryd.prog 42 46 (.agg #[.int .i64 0, .slice none 0 0, .int .i64 0, .slice none 0 0, .slice none 0 0, .bool false, .bool false]) 7 96 := Elem.of Tryd.underlying42 (by kernel_rfl) (by kernel_rfl) (by omega)
theorem an_own {w : World} {base : Nat} {t : TypeId} {g n c : Nat} {l : List Pr} {k : Nat} {f : Pr} (h : w.ownsRow base t 7 (.slice (some ⟨g, 0, none⟩) n c) n (anCells l)) (hf : l[k]? = some f) {r : Nat} {u : Value} (hu : f.an[r]? = some u) : w.cell? ⟨g, k * 7 + r, none⟩ = some u := by
  have hj : (anCells l)[k * 7 + r]? = some u := code_at (rs := l) (code := Pr.an) (s := 7) (fun _ _ => rfl) hf hu
  obtain ⟨cur, hg, htk, _, _, _, _, hxl⟩ := ownK_row h
  have := seg_cells hg 0 (anCells l) (by rw [List.drop_zero, hxl]; exact htk) (k * 7 + r) u hj
  rwa [Addr.add_lit, Nat.zero_add] at this
structure LlW (w0 : World) (N n : Nat) (m : Array Value) (ps : List Pr) (A1 A2 V : Option Addr) (l c1 c2 cv : Nat) (W : World) : Prop where
  o1 : W.ownsRow w0.heap.size 36 7 (.slice A1 l c1) l (opCells ps)
  o2 : W.ownsRow w0.heap.size 47 7 (.slice A2 l c2) l (anCells ps)
  ob : W.ownsRow N 46 7 (.slice V l cv) l (anCells ps)
  bx : W.heap[n]? = some (.cells m 36 (0, 0))
  low : Below w0.heap.size w0 W
  hn : n < w0.heap.size
  d2 : ∀ q, ownS (.slice A1 l c1) q → ¬ ownS (.slice A2 l c2) q
  db : ∀ q, ownS (.slice A1 l c1) q → ¬ ownS (.slice V l cv) q
theorem LlW.below {w0 W W2 : World} {N n : Nat} {m : Array Value} {ps : List Pr} {A1 A2 V : Option Addr} {l c1 c2 cv : Nat} (h : LlW w0 N n m ps A1 A2 V l c1 c2 cv W) (hb : Below W.heap.size W W2) : LlW w0 N n m ps A1 A2 V l c1 c2 cv W2 :=
  have hm := Mod.of_below hb
  ⟨own_keep h.o1 hm (fun _ _ e => e), own_keep h.o2 hm (fun _ _ e => e), own_keep h.ob hm (fun _ _ e => e), hm.keep h.bx (fun e => e), h.low.trans (hb.mono h.low.size), h.hn, h.d2, h.db⟩
theorem LlW.app {w0 W W2 : World} {N n k : Nat} {m : Array Value} {ps : List Pr} {A1 A2 V : Option Addr} {l c1 c2 cv : Nat} {xs : List Value} {v : Value} (h : LlW w0 N n m ps A1 A2 V l c1 c2 cv W) (hA : App W w0.heap.size 36 7 (.slice A1 l c1) k xs W2 v) (ho : W2.ownsRow w0.heap.size 36 7 (.slice A1 l c1) l (opCells ps)) : LlW w0 N n m ps A1 A2 V l c1 c2 cv W2 :=
  have hm := Mod.of_app hA
  have hb := own_base33 h.o1
  ⟨ho, own_keep h.o2 hm (fun q hq e => h.d2 q e hq), own_keep h.ob hm (fun q hq e => h.db q e hq), hm.keep h.bx (fun e => by have := hb n e; have := h.hn; omega), hA.below h.low h.low.size hb, h.hn, h.d2, h.db⟩
set_option maxRecDepth 100000 in
set_option maxHeartbeats 8000000 in
theorem reportlines_any (A : Option Addr) (l c : Nat) (ps : List Pr) (M : Array Value) (hM : M.size = 7) (hM1 : ∀ u ∈ M.toList, u.oneCell' = true) (w : World) (hl : ps.length = l) (hc : ∀ p ∈ ps, p.one ∧ p.full ∧ -9223372036854775808 ≤ p.kind ∧ p.kind ≤ 9223372036854775807) (hb : Cells w w.heap.size A (prCells ps)) (ht : Tab10 w) :
    Calls Tryd.prog 4 #[.slice A l c, .agg M] w fun x w' => x = .returned (.bool true) ∧ Below w.heap.size w w' := by
  obtain ⟨m0, m1, m2, m3, m4, m5, m6, rfl⟩ : ∃ m0 m1 m2 m3 m4 m5 m6, M = #[m0, m1, m2, m3, m4, m5, m6] := by
    obtain ⟨L⟩ := M
    match L, hM with
    | [a, b, c, d, e, f, g], _ => exact ⟨a, b, c, d, e, f, g, rfl⟩
  have HL := Lib.hid hl
  have HCM := Lib.hid hc
  have HP := Lib.hid hb
  have HT := Lib.hid ht
  have HM1 := Lib.hid hM1
  clear hb hc ht hM hM1
  go_enter Tryd.func4, Tryd.ntmps4
  go_upto_region 1 with fail
  have HB0 : Hid (Below w.heap.size w (w.alloc (.cells #[m0, m1, m2, m3, m4, m5, m6] 36))) := (Below.refl _ w).alloc (Nat.le_refl _) _
  have HBX : Hid ((w.alloc (.cells #[m0, m1, m2, m3, m4, m5, m6] 36)).heap[w.heap.size]? = some (.cells #[m0, m1, m2, m3, m4, m5, m6] 36 (0, 0))) := heap_alloc_new w _
  have HSZ : Hid (w.heap.size < (w.alloc (.cells #[m0, m1, m2, m3, m4, m5, m6] 36)).heap.size) := by show _ < _; simp
  generalize w.alloc (.cells #[m0, m1, m2, m3, m4, m5, m6] 36) = w0 at *
  have HP0 : Hid (Cells w0 w0.heap.size A (prCells ps)) := (HP.out.below HB0.out (Nat.le_refl _)).more HB0.out.size
  have HT0 : Hid (Tab10 w0) := tab_below HT.out HB0.out
  clear HP HT
  go_upto_region 4 with (first
    | (go_at_call 14; refine (great33_any A l c ps w0.heap.size w0 hl HP0.out).mono ?_; rintro x w1 ⟨b, rfl, rfl, hg⟩; have HG := Lib.hid hg; clear hg)
    | (go_at_call 13; refine (lives33_any _).mono ?_; rintro x w8 ⟨rfl, hb8⟩; have HB8 := Lib.hid (HB0.out.trans (hb8.mono HB0.out.size)); clear hb8)
    | (go_at_call 15; refine (parts33_any A l c ps w0.heap.size w0 hl (by have := (HG.out (by simp_all only)).1; omega) (fun p hp => (HCM.out p hp).1) HP0.out (Nat.le_refl _)).mono ?_; rintro x W1 ⟨v, u, rfl, ho1, ho2, hd, hb1⟩; obtain ⟨A1, c1, rfl⟩ := ownK_form33 ho1; obtain ⟨A2, c2, rfl⟩ := ownK_form33 ho2; have HO1 := Lib.hid ho1; have HO2 := Lib.hid ho2; have HD := Lib.hid hd; have HC1 := Lib.hid (cells_own33 ho1); have HC2 := Lib.hid (cells_own33 ho2); have HB1 := Lib.hid hb1; clear ho1 ho2 hd hb1))
  · go_ret
    exact ⟨rfl, HB8.out⟩
  have HGG := Lib.hid (HG.out (by simp_all only))
  clear HG HP0
  have HFI : Hid (∀ p ∈ ps, p.fine) := fun p hp => ⟨(HCM.out p hp).1, (HCM.out p hp).2.1, HGG.out.2 p hp, (HCM.out p hp).2.2⟩
  have hls : l ≤ 100 := by have := HGG.out.1; have := HL.out; omega
  go_wp2_with fail
  go_loopg [7, 8] l (fun gk v i wr => ∃ (k : Nat) (V : Option Addr) (cv : Nat), k + gk = l ∧ v = .slice V k cv ∧ i = .int .i64 k ∧ wr.ownsRow W1.heap.size 46 7 (.slice V k cv) k (anCells (ps.take k)) ∧ Below W1.heap.size W1 wr)
  case atStart => exact ⟨0, none, 0, by omega, rfl, rfl, World.ownsRow_nil .., Below.refl _ _⟩
  case round =>
    obtain ⟨k, V, cv, hk, rfl, rfl, hob, hbw⟩ := hrel
    have HOB := Lib.hid hob
    have HBW := Lib.hid hbw
    clear hob hbw
    by_cases h : k < l
    · obtain ⟨f, hx⟩ : ∃ x, ps[k]? = some x := ⟨_, List.getElem?_eq_getElem (by omega)⟩
      obtain ⟨b, o, rfl, hbB, hc⟩ := HC1.out (by rw [opC_len]; omega)
      obtain ⟨b2, o2, rfl, hbB2, hc2⟩ := HC2.out (by rw [anC_len]; omega)
      have HF := Lib.hid (HFI.out f (List.mem_of_getElem? hx))
      have HX := Lib.hid hx
      have HCW : Hid (∀ W, Below W1.heap.size W1 W → ∀ (r : Nat) (u : Value), f.op[r]? = some u → W.cell? ⟨b, o + k * 7 + r, none⟩ = some u) := fun W hW r u hu => by
        rw [Nat.add_assoc]
        exact (hW.cell (p := ⟨b, o + (k * 7 + r), none⟩) (by show b < W1.heap.size; omega)).trans (op_at hc hx hu)
      have HCW2 : Hid (∀ W, Below W1.heap.size W1 W → ∀ (r : Nat) (u : Value), f.an[r]? = some u → W.cell? ⟨b2, o2 + k * 7 + r, none⟩ = some u) := fun W hW r u hu => by
        rw [Nat.add_assoc]
        exact (hW.cell (p := ⟨b2, o2 + (k * 7 + r), none⟩) (by show b2 < W1.heap.size; omega)).trans (an_at hc2 hx hu)
      have hki : (k : Int) < (l : Int) := by omega
      have hw1 : IntKind.i64.wrap ((k : Int) + 1) = (k : Int) + 1 := IntWalk.i64_in _ (by omega)
      have d0 := HCW2.out wr HBW.out 0 _ rfl
      have d1 := HCW2.out wr HBW.out 1 _ rfl
      have d2 := HCW2.out wr HBW.out 2 _ rfl
      have d3 := HCW2.out wr HBW.out 3 _ rfl
      have d4 := HCW2.out wr HBW.out 4 _ rfl
      have d5 := HCW2.out wr HBW.out 5 _ rfl
      have d6 := HCW2.out wr HBW.out 6 _ rfl
      rw [Nat.add_zero] at d0
      clear hc hx hbB hc2 hbB2
      go_upto_region 9 with (first
        | (at_builtin; refine wpList_app1 wr refElem33 rfl (.tmp 29) (.tmp 34) rfl W1.heap.size (.slice V k cv) k _ rfl HOB.out #[.int .i64 f.e, .slice f.ad f.dl f.dc, f.a2, f.a3, f.a4, .bool f.rf, .bool f.po] rfl rfl (Pr.one_an HF.out.1) (by unfold maxLen; omega) (by omega) HBW.out.size ?_; intro A5 c5 W5 hA; have HOW : Hid (W5.ownsRow W1.heap.size 46 7 (.slice A5 (k + 1) c5) (k + 1) (anCells (ps.take (k + 1)))) := (by rw [takeP_snoc HX.out, anCells_snoc]; exact hA.own); have HB5 : Hid (Below W1.heap.size W1 W5) := hA.below HBW.out HBW.out.size (own_base33 HOB.out); clear hA d0 d1 d2 d3 d4 d5 d6))
      obtain ⟨g, c9, hA5⟩ : ∃ g c9, (Value.slice A5 (k + 1) c5) = .slice (some ⟨g, 0, none⟩) (k + 1) c9 := by
        rcases ownK_form HOW.out with ⟨_, h0⟩ | ⟨g, c9, h0⟩
        · omega
        · exact ⟨g, c9, h0⟩
      injection hA5 with e1 _ e2
      subst e1 e2
      have HGZ : Hid (g < W5.heap.size) := (HOW.out.lt g rfl).2
      have HCELLS : Hid (∀ V, Below W5.heap.size W5 V → V.cell? ⟨b, o + k * 7, none⟩ = some (.int .i64 f.kind) ∧ V.cell? ⟨b, o + k * 7 + 1, none⟩ = some (.string f.name) ∧ V.cell? ⟨b, o + k * 7 + 2, none⟩ = some (f.o2) ∧ V.cell? ⟨b, o + k * 7 + 3, none⟩ = some (f.o3) ∧ V.cell? ⟨b, o + k * 7 + 4, none⟩ = some (f.o4) ∧ V.cell? ⟨b, o + k * 7 + 5, none⟩ = some (f.o5) ∧ V.cell? ⟨b, o + k * 7 + 6, none⟩ = some (f.o6) ∧ V.cell? ⟨b2, o2 + k * 7, none⟩ = some (.int .i64 f.e) ∧ V.cell? ⟨b2, o2 + k * 7 + 1, none⟩ = some (.slice f.ad f.dl f.dc) ∧ V.cell? ⟨b2, o2 + k * 7 + 2, none⟩ = some (f.a2) ∧ V.cell? ⟨b2, o2 + k * 7 + 3, none⟩ = some (f.a3) ∧ V.cell? ⟨b2, o2 + k * 7 + 4, none⟩ = some (f.a4) ∧ V.cell? ⟨b2, o2 + k * 7 + 5, none⟩ = some (.bool f.rf) ∧ V.cell? ⟨b2, o2 + k * 7 + 6, none⟩ = some (.bool f.po) ∧ V.cell? ⟨g, k * 7, none⟩ = some (.int .i64 f.e) ∧ V.cell? ⟨g, k * 7 + 1, none⟩ = some (.slice f.ad f.dl f.dc) ∧ V.cell? ⟨g, k * 7 + 2, none⟩ = some (f.a2) ∧ V.cell? ⟨g, k * 7 + 3, none⟩ = some (f.a3) ∧ V.cell? ⟨g, k * 7 + 4, none⟩ = some (f.a4) ∧ V.cell? ⟨g, k * 7 + 5, none⟩ = some (.bool f.rf) ∧ V.cell? ⟨g, k * 7 + 6, none⟩ = some (.bool f.po)) := fun V hV => by
        have hV1 : Below W1.heap.size W1 V := HB5.out.trans (hV.mono HB5.out.size)
        have ha := fun r u (hu : f.an[r]? = some u) => (hV.cell (p := ⟨g, k * 7 + r, none⟩) HGZ.out).trans (an_own HOW.out (k := k) (by rw [List.getElem?_take, if_pos (by omega)]; exact HX.out) hu)
        exact ⟨(by have := HCW.out V hV1 0 _ rfl; rwa [Nat.add_zero] at this), HCW.out V hV1 1 _ rfl, HCW.out V hV1 2 _ rfl, HCW.out V hV1 3 _ rfl, HCW.out V hV1 4 _ rfl, HCW.out V hV1 5 _ rfl, HCW.out V hV1 6 _ rfl, (by have := HCW2.out V hV1 0 _ rfl; rwa [Nat.add_zero] at this), HCW2.out V hV1 1 _ rfl, HCW2.out V hV1 2 _ rfl, HCW2.out V hV1 3 _ rfl, HCW2.out V hV1 4 _ rfl, HCW2.out V hV1 5 _ rfl, HCW2.out V hV1 6 _ rfl, (by have := ha 0 _ rfl; rwa [Nat.add_zero] at this), ha 1 _ rfl, ha 2 _ rfl, ha 3 _ rfl, ha 4 _ rfl, ha 5 _ rfl, ha 6 _ rfl⟩
      have HLS := Lib.hid (line_size HF.out)
      have HRL := Lib.hid (fun W => refLine33_any f W HF.out.2.1 HF.out.2.2.1)
      rw [rl_eq f] at HRL
      have HLN := Lib.hid (fun W ht => line33_any f W HF.out.2.1 HF.out.2.2.1 HF.out.2.2.2 ht)
      have hlq : ((lineS f).toList != (lineS f).toList) = false := by simp
      have hlq2 : ((lineS f).toList == (lineS f).toList) = true := by simp
      generalize lineS f = ls at *
      have hkk : (k : Int) < (k : Int) + 1 := by omega
      have HB0D : Hid (Below W5.heap.size W5 W5.drew) := (Below.refl _ W5).drew
      refine wp_region_noPanic (wp_region_held_drew (S := fun V => V.cell? ⟨b, o + k * 7, none⟩ = some (.int .i64 f.kind) ∧ V.cell? ⟨b, o + k * 7 + 1, none⟩ = some (.string f.name) ∧ V.cell? ⟨b, o + k * 7 + 2, none⟩ = some (f.o2) ∧ V.cell? ⟨b, o + k * 7 + 3, none⟩ = some (f.o3) ∧ V.cell? ⟨b, o + k * 7 + 4, none⟩ = some (f.o4) ∧ V.cell? ⟨b, o + k * 7 + 5, none⟩ = some (f.o5) ∧ V.cell? ⟨b, o + k * 7 + 6, none⟩ = some (f.o6) ∧ V.cell? ⟨b2, o2 + k * 7, none⟩ = some (.int .i64 f.e) ∧ V.cell? ⟨b2, o2 + k * 7 + 1, none⟩ = some (.slice f.ad f.dl f.dc) ∧ V.cell? ⟨b2, o2 + k * 7 + 2, none⟩ = some (f.a2) ∧ V.cell? ⟨b2, o2 + k * 7 + 3, none⟩ = some (f.a3) ∧ V.cell? ⟨b2, o2 + k * 7 + 4, none⟩ = some (f.a4) ∧ V.cell? ⟨b2, o2 + k * 7 + 5, none⟩ = some (.bool f.rf) ∧ V.cell? ⟨b2, o2 + k * 7 + 6, none⟩ = some (.bool f.po) ∧ V.cell? ⟨g, k * 7, none⟩ = some (.int .i64 f.e) ∧ V.cell? ⟨g, k * 7 + 1, none⟩ = some (.slice f.ad f.dl f.dc) ∧ V.cell? ⟨g, k * 7 + 2, none⟩ = some (f.a2) ∧ V.cell? ⟨g, k * 7 + 3, none⟩ = some (f.a3) ∧ V.cell? ⟨g, k * 7 + 4, none⟩ = some (f.a4) ∧ V.cell? ⟨g, k * 7 + 5, none⟩ = some (.bool f.rf) ∧ V.cell? ⟨g, k * 7 + 6, none⟩ = some (.bool f.po)) (by kernel_rfl) (HCELLS.out _ HB0D.out) (fun hHeld => ?_))
      (try simp only [Act.put, List.setIfInBounds_toArray, List.set_cons_zero, List.set_cons_succ])
      refine wpAnyH_take (i := 0) (v := ?_) (by simp only [List.getElem?_toArray, List.getElem?_cons_zero]; rfl) (by kernel_rfl) (by kernel_rfl) (by kernel_rfl) (fun _ _ _ h => h) (Or.inl ⟨by rfl, ?_⟩) (by assumption) ?_
      rotate_left
      · intro w hSw; (try dsimp only at hSw); go_split_ands; go_simp; (try with_reducible rfl)
      (try simp only [Act.put, List.setIfInBounds_toArray, List.set_cons_zero, List.set_cons_succ])
      refine wpAnyH_take (i := 1) (v := ?_) (by simp only [List.getElem?_toArray, List.getElem?_cons_succ, List.getElem?_cons_zero]; rfl) (by kernel_rfl) (by kernel_rfl) (by kernel_rfl) (fun _ _ _ h => h) (Or.inl ⟨by rfl, ?_⟩) (by assumption) ?_
      rotate_left
      · intro w hSw; (try dsimp only at hSw); go_split_ands; go_simp; (try with_reducible rfl)
      (try simp only [Act.put, List.setIfInBounds_toArray, List.set_cons_zero, List.set_cons_succ])
      refine wpAnyH_take (i := 2) (v := ?_) (by simp only [List.getElem?_toArray, List.getElem?_cons_succ, List.getElem?_cons_zero]; rfl) (by kernel_rfl) (by kernel_rfl) (by kernel_rfl) (fun _ _ _ h => h) (Or.inl ⟨by rfl, ?_⟩) (by assumption) ?_
      rotate_left
      · intro w hSw; (try dsimp only at hSw); go_split_ands; go_simp; (try with_reducible rfl)
      (try simp only [Act.put, List.setIfInBounds_toArray, List.set_cons_zero, List.set_cons_succ])
      refine wpAnyH_take (i := 3) (v := ?_) (by simp only [List.getElem?_toArray, List.getElem?_cons_succ, List.getElem?_cons_zero]; rfl) (by kernel_rfl) (by kernel_rfl) (by kernel_rfl) (fun _ _ _ h => h) (Or.inl ⟨by rfl, ?_⟩) (by assumption) ?_
      rotate_left
      · intro w hSw; (try dsimp only at hSw); go_split_ands; go_simp; (try with_reducible rfl)
      (try simp only [Act.put, List.setIfInBounds_toArray, List.set_cons_zero, List.set_cons_succ])
      refine wpAnyH_take (i := 4) (v := ?_) (by simp only [List.getElem?_toArray, List.getElem?_cons_succ, List.getElem?_cons_zero]; rfl) (by kernel_rfl) (by kernel_rfl) (by kernel_rfl) (fun _ _ _ h => h) (Or.inl ⟨by rfl, ?_⟩) (by assumption) ?_
      rotate_left
      · intro w hSw; (try dsimp only at hSw); go_split_ands; go_simp; (try with_reducible rfl)
      (try simp only [Act.put, List.setIfInBounds_toArray, List.set_cons_zero, List.set_cons_succ])
      refine wpAnyH_take (i := 5) (v := ?_) (by simp only [List.getElem?_toArray, List.getElem?_cons_succ, List.getElem?_cons_zero]; rfl) (by kernel_rfl) (by kernel_rfl) (by kernel_rfl) (fun _ _ _ h => h) (Or.inl ⟨by rfl, ?_⟩) (by assumption) ?_
      rotate_left
      · intro w hSw; (try dsimp only at hSw); go_split_ands; go_simp; (try with_reducible rfl)
      (try simp only [Act.put, List.setIfInBounds_toArray, List.set_cons_zero, List.set_cons_succ])
      refine wpAnyH_take (i := 6) (v := ?_) (by simp only [List.getElem?_toArray, List.getElem?_cons_succ, List.getElem?_cons_zero]; rfl) (by kernel_rfl) (by kernel_rfl) (by kernel_rfl) (fun _ _ _ h => h) (Or.inl ⟨by rfl, ?_⟩) (by assumption) ?_
      rotate_left
      · intro w hSw; (try dsimp only at hSw); go_split_ands; go_simp; (try with_reducible rfl)
      (try simp only [Act.put, List.setIfInBounds_toArray, List.set_cons_zero, List.set_cons_succ])
      refine wpAnyH_take (i := 7) (v := ?_) (by simp only [List.getElem?_toArray, List.getElem?_cons_succ, List.getElem?_cons_zero]; rfl) (by kernel_rfl) (by kernel_rfl) (by kernel_rfl) (fun _ _ _ h => h) (Or.inl ⟨by rfl, ?_⟩) (by assumption) ?_
      rotate_left
      · intro w hSw; (try dsimp only at hSw); go_split_ands; go_simp; (try with_reducible rfl)
      (try simp only [Act.put, List.setIfInBounds_toArray, List.set_cons_zero, List.set_cons_succ])
      refine wpAnyH_take (i := 9) (v := ?_) (by simp only [List.getElem?_toArray, List.getElem?_cons_succ, List.getElem?_cons_zero]; rfl) (by kernel_rfl) (by kernel_rfl) (by kernel_rfl) (fun _ _ _ h => h) (Or.inl ⟨by rfl, ?_⟩) (by assumption) ?_
      rotate_left
      · intro w hSw; (try dsimp only at hSw); go_split_ands; go_simp; (try with_reducible rfl)
      (try simp only [Act.put, List.setIfInBounds_toArray, List.set_cons_zero, List.set_cons_succ])
      refine wpAnyH_take (i := 10) (v := ?_) (by simp only [List.getElem?_toArray, List.getElem?_cons_succ, List.getElem?_cons_zero]; rfl) (by kernel_rfl) (by kernel_rfl) (by kernel_rfl) (fun _ _ _ h => h) (Or.inl ⟨by rfl, ?_⟩) (by assumption) ?_
      rotate_left
      · intro w hSw; (try dsimp only at hSw); go_split_ands; go_simp; (try with_reducible rfl)
      (try simp only [Act.put, List.setIfInBounds_toArray, List.set_cons_zero, List.set_cons_succ])
      refine wpAnyH_take (i := 11) (v := ?_) (by simp only [List.getElem?_toArray, List.getElem?_cons_succ, List.getElem?_cons_zero]; rfl) (by kernel_rfl) (by kernel_rfl) (by kernel_rfl) (fun _ _ _ h => h) (Or.inl ⟨by rfl, ?_⟩) (by assumption) ?_
      rotate_left
      · intro w hSw; (try dsimp only at hSw); go_split_ands; go_simp; (try with_reducible rfl)
      (try simp only [Act.put, List.setIfInBounds_toArray, List.set_cons_zero, List.set_cons_succ])
      refine wpAnyH_take (i := 12) (v := ?_) (by simp only [List.getElem?_toArray, List.getElem?_cons_succ, List.getElem?_cons_zero]; rfl) (by kernel_rfl) (by kernel_rfl) (by kernel_rfl) (fun _ _ _ h => h) (Or.inl ⟨by rfl, ?_⟩) (by assumption) ?_
      rotate_left
      · intro w hSw; (try dsimp only at hSw); go_split_ands; go_simp; (try with_reducible rfl)
      (try simp only [Act.put, List.setIfInBounds_toArray, List.set_cons_zero, List.set_cons_succ])
      refine wpAnyH_take (i := 13) (v := ?_) (by simp only [List.getElem?_toArray, List.getElem?_cons_succ, List.getElem?_cons_zero]; rfl) (by kernel_rfl) (by kernel_rfl) (by kernel_rfl) (fun _ _ _ h => h) (Or.inl ⟨by rfl, ?_⟩) (by assumption) ?_
      rotate_left
      · intro w hSw; (try dsimp only at hSw); go_split_ands; go_simp; (try with_reducible rfl)
      (try simp only [Act.put, List.setIfInBounds_toArray, List.set_cons_zero, List.set_cons_succ])
      refine wpAnyH_take (i := 14) (v := ?_) (by simp only [List.getElem?_toArray, List.getElem?_cons_succ, List.getElem?_cons_zero]; rfl) (by kernel_rfl) (by kernel_rfl) (by kernel_rfl) (fun _ _ _ h => h) (Or.inl ⟨by rfl, ?_⟩) (by assumption) ?_
      rotate_left
      · intro w hSw; (try dsimp only at hSw); go_split_ands; go_simp; (try with_reducible rfl)
      (try simp only [Act.put, List.setIfInBounds_toArray, List.set_cons_zero, List.set_cons_succ])
      refine wpAnyH_take (i := 15) (v := ?_) (by simp only [List.getElem?_toArray, List.getElem?_cons_succ, List.getElem?_cons_zero]; rfl) (by kernel_rfl) (by kernel_rfl) (by kernel_rfl) (fun _ _ _ h => h) (Or.inl ⟨by rfl, ?_⟩) (by assumption) ?_
      rotate_left
      · intro w hSw; (try dsimp only at hSw); go_split_ands; go_simp; (try with_reducible rfl)
      (try simp only [Act.put, List.setIfInBounds_toArray, List.set_cons_zero, List.set_cons_succ])
      refine wpAnyH_take (i := 16) (v := ?_) (by simp only [List.getElem?_toArray, List.getElem?_cons_succ, List.getElem?_cons_zero]; rfl) (by kernel_rfl) (by kernel_rfl) (by kernel_rfl) (fun _ _ _ h => h) (Or.inl ⟨by rfl, ?_⟩) (by assumption) ?_
      rotate_left
      · intro w hSw; (try dsimp only at hSw); go_split_ands; go_simp; (try with_reducible rfl)
      (try simp only [Act.put, List.setIfInBounds_toArray, List.set_cons_zero, List.set_cons_succ])
      refine wpAnyH_ready (rs := [8]) (by kernel_rfl) (by simp) ?_
      refine AllReadyH.cons rfl (fun K hK => ?_) AllReadyH.nil
      go_simp
      refine (HLN.out _ (tab_below HT0.out (HB1.out.trans ((HB5.out.trans (HB0D.out.mono HB5.out.size)).mono HB1.out.size)))).mono ?_; rintro e W6 ⟨rfl, hb9⟩; have HB6 : Hid (Below W5.heap.size W5 W6) := HB0D.out.trans (hb9.mono HB0D.out.size); clear hb9
      go_wp2_with fail
      refine hK.out _ _ (HCELLS.out _ HB6.out) (fun hHeld => ?_)
      clear hK K
      (try simp only [Act.put, List.setIfInBounds_toArray, List.set_cons_zero, List.set_cons_succ])
      refine wpAnyH_ready (rs := [17]) (by kernel_rfl) (by simp) ?_
      refine AllReadyH.cons rfl (fun K hK => ?_) AllReadyH.nil
      go_simp
      refine (HRL.out _).mono ?_; rintro e W7 ⟨rfl, hb9⟩; have HB7 : Hid (Below W5.heap.size W5 W7) := HB6.out.trans (hb9.mono HB6.out.size); clear hb9
      go_wp2_with fail
      refine hK.out _ _ (HCELLS.out _ HB7.out) (fun hHeld => ?_)
      clear hK K
      (try simp only [Act.put, List.setIfInBounds_toArray, List.set_cons_zero, List.set_cons_succ])
      refine wpAnyH_take (i := 18) (v := ?_) (by simp only [List.getElem?_toArray, List.getElem?_cons_succ, List.getElem?_cons_zero]; rfl) (by kernel_rfl) (by kernel_rfl) (by kernel_rfl) (fun _ _ _ h => h) (Or.inl ⟨by rfl, ?_⟩) (by assumption) ?_
      rotate_left
      · intro w hSw; (try dsimp only at hSw); go_split_ands; go_simp; (try with_reducible rfl)
      (try simp only [Act.put, List.setIfInBounds_toArray, List.set_cons_zero, List.set_cons_succ])
      refine wpAnyH_done (by kernel_rfl) (NoPanic.normal ?_) _
      go_wp2_with fail
      go_roundg (gk - 1)
      case measure => omega
      case rel => exact ⟨k + 1, _, c5, by omega, rfl, by go_num, own_keep HOW.out (Mod.of_below HB7.out) (fun _ _ e => e), HB5.out.trans (HB7.out.mono HB5.out.size)⟩
    · obtain rfl : k = l := by omega
      have htk : ps.take k = ps := List.take_of_length_le (by have := HL.out; omega)
      rw [htk] at HOB
      have hne : k + 1 ≠ k := by omega
      have HW : Hid (LlW w0 W1.heap.size w.heap.size #[m0, m1, m2, m3, m4, m5, m6] ps A1 A2 V k c1 c2 cv wr) :=
        ⟨own_keep HO1.out (Mod.of_below HBW.out) (fun _ _ e => e), own_keep HO2.out (Mod.of_below HBW.out) (fun _ _ e => e), HOB.out, (HBW.out.block _ (by have := HSZ.out; have := HB1.out.size; omega)).trans ((HB1.out.block _ HSZ.out).trans HBX.out), HB1.out.trans (HBW.out.mono HB1.out.size), HSZ.out, HD.out, fun q h1 h2 => by have := own_lt HO1.out q h1; have := own_base33 HOB.out q h2; omega⟩
      clear HO1 HO2 HD HC1 HC2 HOB HBW
      have ht2 : ((⟨(textL ps).toArray⟩ : ByteArray).toList == (⟨(textL ps).toArray⟩ : ByteArray).toList) = true := by simp
      have HTX := Lib.hid (fun W (h : LlW w0 W1.heap.size w.heap.size #[m0, m1, m2, m3, m4, m5, m6] ps A1 A2 V k c1 c2 cv W) => text33_any A1 A2 k c1 c2 ps W.heap.size W HL.out hls HFI.out (cells_own33 h.o1) (cells_own33 h.o2) (Nat.le_refl _) (tab_below HT0.out h.low))
      have HRX := Lib.hid (fun W (h : LlW w0 W1.heap.size w.heap.size #[m0, m1, m2, m3, m4, m5, m6] ps A1 A2 V k c1 c2 cv W) => refText33_any A1 V k c1 cv ps W.heap.size W HL.out hls HFI.out (cells_own33 h.o1) (cells_own33 h.ob) (Nat.le_refl _))
      generalize (⟨(textL ps).toArray⟩ : ByteArray) = tx at *
      go_upto_region 12 with (go_at_call 18; refine (HTX.out wr HW.out).mono ?_; rintro e W6 ⟨rfl, hb6⟩; have HW6 := Lib.hid (HW.out.below hb6); clear hb6)
      have x0 := cell_of_row _ _ 0 _ _ _ HW6.out.bx
      have x1 := cell_of_row _ _ 1 _ _ _ HW6.out.bx
      have x2 := cell_of_row _ _ 2 _ _ _ HW6.out.bx
      have x3 := cell_of_row _ _ 3 _ _ _ HW6.out.bx
      have x4 := cell_of_row _ _ 4 _ _ _ HW6.out.bx
      have x5 := cell_of_row _ _ 5 _ _ _ HW6.out.bx
      have x6 := cell_of_row _ _ 6 _ _ _ HW6.out.bx
      go_upto_region 13 with (first
        | (at_builtin; refine wpList_app1K W6 opElem33 rfl (.tmp 62) (.tmp 64) rfl w0.heap.size (.slice A1 k c1) k _ rfl HW6.out.o1 #[m0, m1, m2, m3, m4, m5, m6] rfl rfl HM1.out (by unfold maxLen; omega) (by omega) HW6.out.low.size ?_; intro A7 c7 W7 hA hK7; have HW7 := Lib.hid (HW6.out.app hA hK7); clear hA hK7 x0 x1 x2 x3 x4 x5 x6)
        | (go_at_call 18; refine (text33_err A7 A2 (k + 1) k c7 c2 W7 hne).mono ?_; rintro e W8 ⟨rfl, rfl⟩))
      have x0 := cell_of_row _ _ 0 _ _ _ HW7.out.bx
      have x1 := cell_of_row _ _ 1 _ _ _ HW7.out.bx
      have x2 := cell_of_row _ _ 2 _ _ _ HW7.out.bx
      have x3 := cell_of_row _ _ 3 _ _ _ HW7.out.bx
      have x4 := cell_of_row _ _ 4 _ _ _ HW7.out.bx
      have x5 := cell_of_row _ _ 5 _ _ _ HW7.out.bx
      have x6 := cell_of_row _ _ 6 _ _ _ HW7.out.bx
      go_upto_region 14 with (first
        | (at_builtin; refine wpList_app1K W7 opElem33 rfl (.tmp 71) (.tmp 73) rfl w0.heap.size (.slice A1 k c1) k _ rfl HW7.out.o1 #[m0, m1, m2, m3, m4, m5, m6] rfl rfl HM1.out (by unfold maxLen; omega) (by omega) HW7.out.low.size ?_; intro A9 c9 W9 hA hK9; have HW9 := Lib.hid (HW7.out.app hA hK9); clear hA hK9 x0 x1 x2 x3 x4 x5 x6)
        | (go_at_call 19; refine (sum33_err A9 A2 (k + 1) k c9 c2 W9 hne).mono ?_; rintro e W10 ⟨rfl, hb10⟩; have HW10 := Lib.hid (HW9.out.below hb10); clear hb10)
        | (refine wpList_store_row rfl 55 (.tmp 13) (.tmp 77) rfl W10.heap.size rfl 55 (smCells 0 smZ).toArray (smCells 0 smZ).toArray rfl (heap_alloc_new W10 _) smInfo rfl (sm_one _ _) (fun W11 hW11 hM11 => ?_); have HW11 : Hid (LlW w0 W1.heap.size w.heap.size #[m0, m1, m2, m3, m4, m5, m6] ps A1 A2 V k c1 c2 cv W11) := HW10.out.below ((((Mod.refl (oneB W10.heap.size) W10).alloc _).then_ hM11).below (Below.refl _ _) (Nat.le_refl _) (fun q hq => by have : q = W10.heap.size := hq; omega)); clear hW11 hM11))
      go_wp2_with ((first
        | (go_at_call 20; refine (HRX.out W11 HW11.out).mono ?_; rintro e W12 ⟨rfl, hb12⟩; have HW12 := Lib.hid (HW11.out.below hb12); clear hb12)
        | (go_at_call 13; refine (lives33_any _).mono ?_; rintro x w8 ⟨rfl, hb8⟩; have HB8 : Hid (Below w.heap.size w w8) := HB0.out.trans ((HW12.out.low.trans (hb8.mono HW12.out.low.size)).mono HB0.out.size); clear hb8)))
      go_ret
      exact ⟨rfl, HB8.out⟩
def opSh : Sh := (Sh.int IntKind.i64).cons (Sh.str.cons ((Sh.int IntKind.u8).slice.cons ((Sh.int IntKind.i64).cons ((Sh.bool.slice.cons ((Sh.int IntKind.i64).cons ((Sh.int IntKind.u8).cons Sh.nil))).cons Sh.nil))))
theorem op_lies {w : World} {x : List Value} (hu : Lies w opSh x) : x.length = 7 ∧ ∀ u ∈ x, u.oneCell' = true := by
  obtain ⟨u0, u, rfl, _, _, ⟨kind, rfl, hk⟩, hu⟩ := hu
  obtain ⟨u1, u, rfl, _, _, ⟨nm, rfl, _⟩, hu⟩ := hu
  obtain ⟨u2, u, rfl, _, _, ⟨A2, l2, c2, X2, rfl, _⟩, hu⟩ := hu
  obtain ⟨u3, u, rfl, _, _, ⟨n3, rfl, _⟩, hu⟩ := hu
  obtain ⟨t, n8, rfl, _, _, hu, h8⟩ := hu
  obtain rfl : n8 = [] := h8
  obtain ⟨u4, u, rfl, _, _, ⟨A4, l4, c4, X4, rfl, _⟩, hu⟩ := hu
  obtain ⟨u5, u, rfl, _, _, ⟨n5, rfl, _⟩, hu⟩ := hu
  obtain ⟨u6, n7, rfl, _, _, ⟨n6, rfl, _⟩, h7⟩ := hu
  obtain rfl : n7 = [] := h7
  refine ⟨rfl, fun v hv => ?_⟩
  simp only [List.cons_append, List.nil_append, List.append_nil, List.mem_cons, List.not_mem_nil, or_false] at hv
  rcases hv with rfl | rfl | rfl | rfl | rfl | rfl | rfl <;> rfl
theorem reportlines_in (a : Option Addr) (len cap : Nat) (M : Array Value) (hM : M.size = 7) (hM1 : ∀ u ∈ M.toList, u.oneCell' = true) (w : World) (h : Lies w (.slice prSh) [.slice a len cap]) (ht : Tab10 w) :
    Calls Tryd.prog 4 #[.slice a len cap, .agg M] w fun x w' => x = .returned (.bool true) ∧ Below w.heap.size w w' := by
  obtain ⟨ps, h1, _, h3, h4⟩ := prs_in h
  exact reportlines_any a len cap ps M hM hM1 w h1 (fun p hp => ⟨(h4 p hp).1, ⟨(h4 p hp).2.2.2.1, (h4 p hp).2.2.2.2⟩, bounds_i64 (h4 p hp).2.1⟩) h3 ht
end Go.Proofs.YtkgkefifcpneiaaDoor
