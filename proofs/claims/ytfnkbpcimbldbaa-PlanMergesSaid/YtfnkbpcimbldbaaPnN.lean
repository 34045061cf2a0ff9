/- Layer 38: plan.Merge. -/
import Derived.Test.YtfnkbpcimbldbaaPnH
import Derived.Test.YtfnkbpcimbldbaaPnM
namespace Go.Proofs.Ytfnkbpcimbldbaa
open Go.RowKit

theorem MPost.comp {w w1 w2 : World} {base p q r : Nat} {Ac Ac' : Option Addr} {cc cc' : Nat} {cs cx : List ByteArray} {Al Al' : Option Addr} {cl cl' : Nat} {fs px : List Fi} {x2 : List ByteArray} {y2 : List (ByteArray × List UInt8)}
    (h : MT w w1 base p q r Ac cc cs Al cl fs Ac' cc' (cs ++ cx) Al' cl' (fs ++ px)) (hp : ∀ f ∈ px, Keeps w1 (twoS p q r (.slice Ac' (cs ++ cx).length cc') (.slice Al' (fs ++ px).length cl')) f.ad f.data ∧ f.data.length ≤ f.cp)
    (k : MPost w1 base p q r Ac' cc' (cs ++ cx) Al' cl' (fs ++ px) w2 x2 y2) : MPost w base p q r Ac cc cs Al cl fs w2 (cx ++ x2) (px.map Fi.key ++ y2) := by
  obtain ⟨A1, c1, A2, c2, p1, ht, rfl, k2⟩ := k
  refine ⟨A1, c1, A2, c2, px ++ p1, ?_, by rw [List.map_append], ?_⟩
  · rw [← List.append_assoc, ← List.append_assoc]
    exact h.trans ht
  · intro o ho
    rw [← List.append_assoc, ← List.append_assoc]
    rcases List.mem_append.1 ho with ho | ho
    · exact ⟨(hp o ho).1.on ht, (hp o ho).2⟩
    · exact k2 o ho
theorem MPost.third {w w1 w2 : World} {base p q r : Nat} {Ac : Option Addr} {cc : Nat} {cs : List ByteArray} {Al : Option Addr} {cl : Nat} {fs : List Fi} {x : List ByteArray} {y : List (ByteArray × List UInt8)} (h : MPost w base p q r Ac cc cs Al cl fs w1 x y) (hm : Mod (oneB r) w1 w2) (hr : w.heap.size ≤ r) : MPost w base p q r Ac cc cs Al cl fs w2 x y := by
  obtain ⟨A1, c1, A2, c2, p1, ht, h1, k2⟩ := h
  exact ⟨A1, c1, A2, c2, p1, ht.third hm hr, h1, fun o ho => ⟨(k2 o ho).1.mod hm (fun k e => .inr (.inr (.inl e))), (k2 o ho).2⟩⟩
theorem clashO_len (n : ByteArray) (o a b : Option Fi) : (clashO n o a b).length ≤ 1 := by
  unfold clashO
  split
  · simp
  · split <;> simp
theorem keptX_len (n : ByteArray) (t : Option Fi) : (keptX n t).length ≤ 1 := by
  cases t <;> simp [keptX]
theorem clash_flat (o a b : List Fi) : ∀ U : List ByteArray, U.flatMap (fun n => clashO n (findK Fi.nm o n) (findK Fi.nm a n) (findK Fi.nm b n)) = clashL (o.map Fi.key) (a.map Fi.key) (b.map Fi.key) U
  | [] => rfl
  | n :: U => by
    rw [List.flatMap_cons, clash_flat o a b U]
    unfold clashL
    rw [List.filter_cons]
    unfold clashO clashN
    rw [get_key, get_key, get_key]
    by_cases h1 : (findK Fi.nm a n).map Fi.data = (findK Fi.nm b n).map Fi.data ∨ (findK Fi.nm b n).map Fi.data = (findK Fi.nm o n).map Fi.data
    · rw [if_pos h1, if_neg]
      · rfl
      · have h2 : (findK Fi.nm a n).map Fi.data = (findK Fi.nm b n).map Fi.data ∨ (findK Fi.nm o n).map Fi.data = (findK Fi.nm b n).map Fi.data := h1.imp id Eq.symm
        simp [decide_eq_true h2]
    · have h2 : ¬ ((findK Fi.nm a n).map Fi.data = (findK Fi.nm b n).map Fi.data ∨ (findK Fi.nm o n).map Fi.data = (findK Fi.nm b n).map Fi.data) := fun e => h1 (e.imp id Eq.symm)
      rw [if_neg h1]
      by_cases h3 : (findK Fi.nm a n).map Fi.data = (findK Fi.nm o n).map Fi.data
      · rw [if_pos h3, if_neg]
        · rfl
        · simp [decide_eq_true h3.symm]
      · rw [if_neg h3, if_pos]
        · rfl
        · rw [decide_eq_false h2, decide_eq_false (fun e => h3 (Eq.symm e))]
          rfl
theorem kept_flat (o a b : List Fi) : ∀ U : List ByteArray, U.flatMap (fun n => keptX n (keptO (findK Fi.nm o n) (findK Fi.nm a n) (findK Fi.nm b n))) = mergeL (o.map Fi.key) (a.map Fi.key) (b.map Fi.key) U
  | [] => rfl
  | n :: U => by
    rw [List.flatMap_cons, kept_flat o a b U]
    unfold mergeL
    rw [List.filterMap_cons]
    have hk : keptN (o.map Fi.key) (a.map Fi.key) (b.map Fi.key) n = (keptO (findK Fi.nm o n) (findK Fi.nm a n) (findK Fi.nm b n)).map Fi.data := by
      unfold keptN keptO
      rw [get_key, get_key, get_key]
      by_cases h1 : (findK Fi.nm a n).map Fi.data = (findK Fi.nm b n).map Fi.data ∨ (findK Fi.nm b n).map Fi.data = (findK Fi.nm o n).map Fi.data
      · rw [if_pos h1, if_pos (h1.imp id Eq.symm)]
      · rw [if_neg h1, if_neg (fun e => h1 (e.imp id Eq.symm))]
        by_cases h3 : (findK Fi.nm a n).map Fi.data = (findK Fi.nm o n).map Fi.data
        · rw [if_pos h3, if_pos h3.symm]
        · rw [if_neg h3, if_neg (fun e => h3 (Eq.symm e))]
    rw [hk]
    cases keptO (findK Fi.nm o n) (findK Fi.nm a n) (findK Fi.nm b n) with
    | none => rfl
    | some f => rfl

theorem results_cell2P {fn : Func} {p q : Tmp} {ty tz : TypeId} (h : fn.results = #[.cell p ty, .cell q tz]) (tmps : Array Value) (P : Program) (w : World) :
    (results fn tmps).run P w = ((asAddr (tmps.getD p undef)).run P w).andThen fun a w₁ => ((loadVar ty a).run P w₁).andThen fun v w₂ => ((asAddr (tmps.getD q undef)).run P w₂).andThen fun b w₃ => ((loadVar tz b).run P w₃).andThen fun v2 w₄ => .ok (.tuple #[v, v2]) w₄ := by
  simp only [results, h]
  simp [Sem.run_bind, Result.andThen]
set_option maxRecDepth 100000 in
set_option maxHeartbeats 2000000 in
theorem merge_any (A0 A1 A2 : Option Addr) (l0 c0 l1 c1 l2 c2 : Nat) (o a b : List Fi) (B : Nat) (w : World) (hl0 : o.length = l0) (hl1 : a.length = l1) (hl2 : b.length = l2) (hm0 : l0 ≤ 100000) (hm1 : l1 ≤ 100000) (hm2 : l2 ≤ 100000) (hc0 : l0 ≤ c0 ∧ 0 ≤ c0) (hc1 : l1 ≤ c1 ∧ 0 ≤ c1) (hc2 : l2 ≤ c2 ∧ 0 ≤ c2)
    (ho : Ris Fi.nm o) (ha : Ris Fi.nm a) (hb : Ris Fi.nm b) (hfo : Files w B A0 o) (hfa : Files w B A1 a) (hfb : Files w B A2 b) (hdo : ∀ f ∈ o, f.data.length ≤ 1000000) (hda : ∀ f ∈ a, f.data.length ≤ 1000000) (hdb : ∀ f ∈ b, f.data.length ≤ 1000000) (hB : B ≤ w.heap.size) :
    Calls Try.prog 7 #[.slice A0 l0 c0, .slice A1 l1 c1, .slice A2 l2 c2] w fun e w' => ∃ A' c' fs C' d' cs, e = .returned (.tuple #[.slice A' fs.length c', .slice C' cs.length d']) ∧ fs.map Fi.key = mergeL (o.map Fi.key) (a.map Fi.key) (b.map Fi.key) (uni3 (o.map Fi.key) (a.map Fi.key) (b.map Fi.key)) ∧ Files w' w'.heap.size A' fs ∧
      cs = clashL (o.map Fi.key) (a.map Fi.key) (b.map Fi.key) (uni3 (o.map Fi.key) (a.map Fi.key) (b.map Fi.key)) ∧ Cells w' w'.heap.size C' (nmV cs) ∧ Below w.heap.size w w' := by
  obtain ⟨W1, hW1⟩ : ∃ W1, w.alloc (.cells #[.slice none 0 0] 22) = W1 := ⟨_, rfl⟩
  obtain ⟨W2, hW2⟩ : ∃ W2, W1.alloc (.cells #[.slice none 0 0] 25) = W2 := ⟨_, rfl⟩
  obtain ⟨W3, hW3⟩ : ∃ W3, W2.alloc (.cells #[.slice A0 l0 c0, .slice A1 l1 c1, .slice A2 l2 c2] 22) = W3 := ⟨_, rfl⟩
  have z1 : W1.heap.size = w.heap.size + 1 := by rw [← hW1, World.size_alloc]
  have z2 : W2.heap.size = w.heap.size + 1 + 1 := by rw [← hW2, World.size_alloc, z1]
  have z3 : W3.heap.size = w.heap.size + 1 + 1 + 1 := by rw [← hW3, World.size_alloc, z2]
  have hb3 : Below w.heap.size w W3 := by rw [← hW3, ← hW2, ← hW1]; exact (((Below.refl _ w).alloc (Nat.le_refl _) _).alloc (by simp) _).alloc (by rw [World.size_alloc, World.size_alloc]; omega) _
  have q3 : W3.heap[w.heap.size]? = some (.cells #[.slice none 0 0] 22 (0, 0)) := by
    rw [← hW3]
    refine (Below.heap_alloc W2 _ _ (by omega)).trans ?_
    rw [← hW2]
    refine (Below.heap_alloc W1 _ _ (by omega)).trans ?_
    rw [← hW1]
    exact heap_alloc_new w _
  have p3 : W3.heap[w.heap.size + 1]? = some (.cells #[.slice none 0 0] 25 (0, 0)) := by
    rw [← hW3]
    refine (Below.heap_alloc W2 _ _ (by omega)).trans ?_
    rw [← hW2, ← z1]
    exact heap_alloc_new W1 _
  have r3 : W3.heap[W2.heap.size]? = some (.cells #[.slice A0 l0 c0, .slice A1 l1 c1, .slice A2 l2 c2] 22 (0, 0)) := by rw [← hW3]; exact heap_alloc_new W2 _
  obtain ⟨U, hUd⟩ : ∃ U, uni3 (o.map Fi.key) (a.map Fi.key) (b.map Fi.key) = U := ⟨_, rfl⟩
  have hUr : Ris id U := by rw [← hUd]; exact uni_ris _
  have hUm2 : ∀ s, s ∈ U ↔ s ∈ (o.map Fi.key).map Prod.fst ∨ s ∈ (a.map Fi.key).map Prod.fst ∨ s ∈ (b.map Fi.key).map Prod.fst := by rw [← hUd]; exact uni3_mem _ _ _
  have hUl : U.length ≤ 300000 := by
    rw [← hUd]
    refine Nat.le_trans (uni_len _) ?_
    rw [List.length_append, List.length_append, List.length_map, List.length_map, List.length_map, List.length_map, List.length_map, List.length_map]
    omega
  have key : ∀ {l : List Fi} {s : ByteArray}, s ∈ (l.map Fi.key).map Prod.fst ↔ ∃ x ∈ l, x.nm = s := fun {l s} => by
    rw [List.map_map, List.mem_map]
    rfl
  have all : ∀ {P : FL → Prop}, P ⟨A0, c0, o⟩ → P ⟨A1, c1, a⟩ → P ⟨A2, c2, b⟩ → ∀ q ∈ [(⟨A0, c0, o⟩ : FL), ⟨A1, c1, a⟩, ⟨A2, c2, b⟩], P q := fun {P} h0 h1 h2 q hq => by
    simp only [List.mem_cons, List.not_mem_nil, or_false] at hq
    rcases hq with rfl | rfl | rfl
    · exact h0
    · exact h1
    · exact h2
  have HE := Lib.hid (each_any 13 B W3.heap.size W2.heap.size (w.heap.size + 1) w.heap.size 3 3 (fun r k V => MPost W3 W3.heap.size (w.heap.size + 1) w.heap.size r none 0 [] none 0 [] V ((U.take k).flatMap fun n => clashO n (findK Fi.nm o n) (findK Fi.nm a n) (findK Fi.nm b n)) ((U.take k).flatMap fun n => keptX n (keptO (findK Fi.nm o n) (findK Fi.nm a n) (findK Fi.nm b n))))
    [⟨A0, c0, o⟩, ⟨A1, c1, a⟩, ⟨A2, c2, b⟩] U W3 (fun _ _ => rfl) rfl (by omega) (by omega)
    (fun _ => ⟨W2.heap.size, 0, rfl, by omega, fun j u hj => by
      rw [Nat.zero_add, cell_of_row _ _ _ _ _ _ r3]
      rw [← hl0, ← hl1, ← hl2]
      simpa [FL.val] using hj⟩) (Nat.le_refl _)
    (all (P := fun q => Files W3 B q.ad q.fs) (hfo.below hb3 hB) (hfa.below hb3 hB) (hfb.below hb3 hB))
    (all (P := fun q => q.fs.length ≤ 1000000 ∧ q.fs.length ≤ q.cp ∧ 0 ≤ q.cp) ⟨by show o.length ≤ _; omega, by show o.length ≤ c0; omega, hc0.2⟩ ⟨by show a.length ≤ _; omega, by show a.length ≤ c1; omega, hc1.2⟩ ⟨by show b.length ≤ _; omega, by show b.length ≤ c2; omega, hc2.2⟩)
    (by omega)
    (all (P := fun q => Ris Fi.nm q.fs) ho ha hb)
    hUr
    (by intro s
        rw [hUm2, key, key, key]
        constructor
        · rintro (h | h | h)
          · exact ⟨_, List.mem_cons_self .., h⟩
          · exact ⟨_, List.mem_cons_of_mem _ (List.mem_cons_self ..), h⟩
          · exact ⟨_, List.mem_cons_of_mem _ (List.mem_cons_of_mem _ (List.mem_cons_self ..)), h⟩
        · rintro ⟨q, hq, h⟩
          simp only [List.mem_cons, List.not_mem_nil, or_false] at hq
          rcases hq with rfl | rfl | rfl
          · exact .inl h
          · exact .inr (.inl h)
          · exact .inr (.inr h))
    (fun r w1 hb1 hr => by
      have h0 := two_start (ep := 9) (eq := 33) (kp := 1) (kq := 2) p3 q3 (by omega) hr
      exact ⟨none, 0, none, 0, [], TPost.below h0 hb1, rfl, (by intro o ho; cases ho)⟩)
    (fun r k w1 w2 hI hm hr => hI.third hm hr)
    (fun r k n h w1 hn hI hbw hr hrl hH => by
      obtain ⟨Ac, cc, Al, cl, px, ht, e2, k2⟩ := hI
      have lx : ((U.take k).flatMap fun n => clashO n (findK Fi.nm o n) (findK Fi.nm a n) (findK Fi.nm b n)).length ≤ 300000 :=
        Nat.le_trans (flat_len _ (fun n => clashO_len n _ _ _) _) (Nat.le_trans (by rw [List.length_take]; omega) hUl)
      have ly : px.length ≤ 300000 := by
        have h1 := congrArg List.length e2
        rw [List.length_map] at h1
        rw [h1]
        exact Nat.le_trans (flat_len _ (fun n => keptX_len n _) _) (Nat.le_trans (by rw [List.length_take]; omega) hUl)
      have hz := ht.mod.size
      refine (mergeCl_any W3.heap.size B (w.heap.size + 1) w.heap.size r h n (findK Fi.nm o n) (findK Fi.nm a n) (findK Fi.nm b n) Ac Al cc cl _ ([] ++ px) w1 ht.two hrl hH (bytesO_find (hfo.below hb3 hB) hbw) (bytesO_find (hfa.below hb3 hB) hbw) (bytesO_find (hfb.below hb3 hB) hbw) (dataO_len hdo) (dataO_len hda) (dataO_len hdb) (by rw [List.nil_append]; omega) (by rw [List.nil_append]; omega) (Nat.le_trans (Nat.le_trans hB hb3.size) hz) (by omega) hz).mono ?_
      rintro e w2 ⟨rfl, hp⟩
      have hc := MPost.comp ht k2 hp
      rw [e2, ← flat_take _ hn, ← flat_take (fun n => keptX n (keptO (findK Fi.nm o n) (findK Fi.nm a n) (findK Fi.nm b n))) hn] at hc
      refine ⟨rfl, hc, ?_⟩
      obtain ⟨_, _, _, _, _, hx, _⟩ := hp
      exact hx.low.mono (fun j hj => ⟨by rcases hj.1 with h1 | h1 | h1 <;> omega, hj.2⟩)))
  have HB3 := Lib.hid hb3
  rw [List.take_length, z2, clash_flat, kept_flat] at HE
  rw [hUd]
  clear hl0 hl1 hl2 hm0 hm1 hm2 hc0 hc1 hc2 ho ha hb hfo hfa hfb hdo hda hdb hB hb3 p3 q3 r3 hUr hUm2 hUl key hUd all
  go_enter Try.func7, Try.ntmps7
  go_wp2_with (go_at_call 12; refine HE.out.mono ?_; rintro e w4 ⟨rfl, r, hr, Ac, cc, Al, cl, px, ht, e2, k2⟩; have HT := Lib.hid ht; have E2 := Lib.hid e2; have K2 := Lib.hid k2; have x4 : w4.cell? ⟨w.heap.size + 1, 0, none⟩ = some (.slice Ac ([] ++ clashL (o.map Fi.key) (a.map Fi.key) (b.map Fi.key) U).length cc) := cell_of_row _ _ 0 _ _ _ ht.two.bp; have y4 : w4.cell? ⟨w.heap.size, 0, none⟩ = some (.slice Al ([] ++ px).length cl) := cell_of_row _ _ 0 _ _ _ ht.two.bq; have f4 := box_free ht.two.bp 0; have g4 := box_free ht.two.bq 0; clear hr ht e2 k2)
  go_region
  all_goals
    go_wp2
    obtain ⟨cs, hcs⟩ : ∃ cs, clashL (o.map Fi.key) (a.map Fi.key) (b.map Fi.key) U = cs := ⟨_, rfl⟩
    rw [hcs]
    have ht := HT.out
    have hk2 := K2.out
    rw [hcs] at ht hk2
    obtain ⟨W5, hW5⟩ : ∃ W5, ((w4.setCell ⟨w.heap.size, 0, none⟩ (.slice Al px.length cl)).setCell ⟨w.heap.size + 1, 0, none⟩ (.slice Ac cs.length cc)).drew = W5 := ⟨_, rfl⟩
    have hm5 : Mod (fun k => k = w.heap.size + 1 ∨ k = w.heap.size) w4 W5 := by rw [← hW5]; exact (((Mod.refl _ w4).set ⟨w.heap.size, 0, none⟩ _ (.inl (.inr rfl))).set ⟨w.heap.size + 1, 0, none⟩ _ (.inl (.inl rfl))).drew
    have q4 : (w4.setCell ⟨w.heap.size, 0, none⟩ (.slice Al px.length cl)).heap[w.heap.size]? = some (.cells #[.slice Al px.length cl] 22 (0, 0)) := by
      rw [heap_setCell_same w4 w.heap.size 0 _ _ _ ht.two.bq]
      rfl
    have p4 : (w4.setCell ⟨w.heap.size, 0, none⟩ (.slice Al px.length cl)).heap[w.heap.size + 1]? = some (.cells #[.slice Ac cs.length cc] 25 (0, 0)) :=
      ((Mod.refl (oneB w.heap.size) w4).set ⟨w.heap.size, 0, none⟩ _ (.inl rfl)).keep ht.two.bp (fun e => by have e : w.heap.size + 1 = w.heap.size := e; omega)
    have q5 : W5.heap[w.heap.size]? = some (.cells #[.slice Al px.length cl] 22 (0, 0)) := by
      rw [← hW5]
      exact ((Mod.refl (oneB (w.heap.size + 1)) _).set ⟨w.heap.size + 1, 0, none⟩ _ (.inl rfl)).keep q4 (fun e => by have e : w.heap.size = w.heap.size + 1 := e; omega)
    have p5 : W5.heap[w.heap.size + 1]? = some (.cells #[.slice Ac cs.length cc] 25 (0, 0)) := by
      rw [← hW5]
      show ((w4.setCell _ _).setCell _ _).heap[_]? = _
      rw [heap_setCell_same _ (w.heap.size + 1) 0 _ _ _ p4]
      rfl
    have x5 : W5.cell? ⟨w.heap.size + 1, 0, none⟩ = some (.slice Ac cs.length cc) := cell_of_row _ _ 0 _ _ _ p5
    have y5 : W5.cell? ⟨w.heap.size, 0, none⟩ = some (.slice Al px.length cl) := cell_of_row _ _ 0 _ _ _ q5
    rw [hW5]
    have hlo := ht.two.lo
    have hb4 : Below w.heap.size w w4 := ht.low.below HB3.out HB3.out.size (fun k hk => by have := HB3.out.size; rcases hk.1 with h | h | h <;> omega)
    refine bodyPost_ret (v := .tuple #[.slice Al px.length cl, .slice Ac cs.length cc]) ?_ rfl ⟨Al, cl, px, Ac, cc, cs, rfl, by rw [E2.out], ⟨cells_of_ownF (own_keep ht.two.rq hm5 (fun k hk e => by have := (ht.two.rq.lt k hk).1; omega)), fun f hf => ?_⟩, rfl, cells_of_ownF (own_keep ht.two.rp hm5 (fun k hk e => by have := (ht.two.rp.lt k hk).1; omega)), hm5.below hb4 hb4.size (fun k hk => by omega)⟩
    · rw [results_cell2P rfl]
      go_simp
    · obtain ⟨h1, h2⟩ := hk2 f hf
      exact ⟨(h1.mod hm5 (fun k hk => by rcases hk with hk | hk; exact .inl hk; exact .inr (.inl hk))).bytes, h2⟩
end Go.Proofs.Ytfnkbpcimbldbaa
