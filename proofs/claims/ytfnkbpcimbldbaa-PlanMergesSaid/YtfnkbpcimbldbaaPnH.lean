/- Layer 38: plan.Diff. -/
import Derived.Test.YtfnkbpcimbldbaaPnG
namespace Go.Proofs.Ytfnkbpcimbldbaa
open Go.RowKit

theorem get_key (l : List Fi) (s : ByteArray) : getK (l.map Fi.key) s = (findK Fi.nm l s).map Fi.data := by
  unfold getK findK
  rw [List.find?_map, Option.map_map]
  rfl
theorem gone_flat (b : List Fi) : ∀ U : List ByteArray, U.flatMap (fun n => goneX n (findK Fi.nm b n)) = (U.filter fun n => (getK (b.map Fi.key) n).isNone).map fun n => ((11 : Int), n, ([] : List UInt8))
  | [] => rfl
  | n :: U => by
    rw [List.flatMap_cons, gone_flat b U, List.filter_cons, get_key]
    cases findK Fi.nm b n with
    | none => rfl
    | some f => rfl
theorem put_flat (a b : List Fi) : ∀ U : List ByteArray, U.flatMap (fun n => putX n (findK Fi.nm a n) (findK Fi.nm b n)) = (U.filterMap (putStep (a.map Fi.key) (b.map Fi.key))).map fun x => ((3 : Int), x.1, x.2)
  | [] => rfl
  | n :: U => by
    rw [List.flatMap_cons, put_flat a b U, List.filterMap_cons]
    unfold putStep
    rw [get_key, get_key]
    cases findK Fi.nm b n with
    | none => rfl
    | some f =>
      show (if (findK Fi.nm a n).map Fi.data = some f.data then [] else [((3 : Int), n, f.data)]) ++ _ = _
      by_cases h : (findK Fi.nm a n).map Fi.data = some f.data
      · rw [if_pos h]
        simp only [Option.map_some, if_pos h]
        rfl
      · rw [if_neg h]
        simp only [Option.map_some, if_neg h]
        rfl
theorem olCells_one (os : List OL) : ∀ u ∈ olCells os, u.oneCell' = true := fun u hu => by
  unfold olCells at hu
  rw [List.mem_flatten] at hu
  obtain ⟨l, hl, hul⟩ := hu
  obtain ⟨f, _, rfl⟩ := List.mem_map.1 hl
  unfold OL.cells at hul
  simp only [List.mem_cons, List.not_mem_nil, or_false] at hul
  rcases hul with rfl | rfl | rfl | rfl | rfl | rfl | rfl <;> rfl
theorem olCells_app (l m : List OL) : olCells (l ++ m) = olCells l ++ olCells m := by unfold olCells; simp
/-- Steps in memory. -/
structure Ops (w : World) (B : Nat) (A : Option Addr) (os : List OL) : Prop where
  row : Cells w B A (olCells os)
  each : ∀ o ∈ os, Bytes w B o.ad o.data ∧ o.data.length ≤ o.cp
theorem DPost.comp {w w1 w2 : World} {base p q r : Nat} {Ag Ag' : Option Addr} {cg cg' : Nat} {gs gx : List OL} {Ap Ap' : Option Addr} {cp cp' : Nat} {ps px : List OL} {x2 y2 : List PO}
    (h : TPost w w1 base p q r 34 34 40 40 7 7 (.slice Ag gs.length cg) (.slice Ap ps.length cp) (.slice Ag' (gs ++ gx).length cg') (.slice Ap' (ps ++ px).length cp') (gs ++ gx).length (ps ++ px).length (olCells (gs ++ gx)) (olCells (ps ++ px)))
    (hg : ∀ o ∈ gx, o.data = []) (hp : ∀ o ∈ px, Keeps w1 (twoS p q r (.slice Ag' (gs ++ gx).length cg') (.slice Ap' (ps ++ px).length cp')) o.ad o.data ∧ o.data.length ≤ o.cp)
    (k : DPost w1 base p q r Ag' cg' (gs ++ gx) Ap' cp' (ps ++ px) w2 x2 y2) : DPost w base p q r Ag cg gs Ap cp ps w2 (gx.map OL.po ++ x2) (px.map OL.po ++ y2) := by
  obtain ⟨A1, c1, g1, A2, c2, p1, ht, rfl, rfl, k1, k2⟩ := k
  refine ⟨A1, c1, gx ++ g1, A2, c2, px ++ p1, ?_, by rw [List.map_append], by rw [List.map_append], ?_, ?_⟩
  · rw [← List.append_assoc, ← List.append_assoc]
    exact h.trans ht
  · intro o ho
    rcases List.mem_append.1 ho with ho | ho
    · exact hg o ho
    · exact k1 o ho
  · intro o ho
    rw [← List.append_assoc, ← List.append_assoc]
    rcases List.mem_append.1 ho with ho | ho
    · exact ⟨(hp o ho).1.on ht, (hp o ho).2⟩
    · exact k2 o ho
theorem DPost.third {w w1 w2 : World} {base p q r : Nat} {Ag : Option Addr} {cg : Nat} {gs : List OL} {Ap : Option Addr} {cp : Nat} {ps : List OL} {x y : List PO} (h : DPost w base p q r Ag cg gs Ap cp ps w1 x y) (hm : Mod (oneB r) w1 w2) (hr : w.heap.size ≤ r) : DPost w base p q r Ag cg gs Ap cp ps w2 x y := by
  obtain ⟨A1, c1, g1, A2, c2, p1, ht, h1, h2, k1, k2⟩ := h
  exact ⟨A1, c1, g1, A2, c2, p1, ht.third hm hr, h1, h2, k1, fun o ho => ⟨(k2 o ho).1.mod hm (fun k e => .inr (.inr (.inl e))), (k2 o ho).2⟩⟩
theorem two_start {w : World} {p q r : Nat} {tp tq ep eq : TypeId} {kp kq : Nat} (hp : w.heap[p]? = some (.cells #[.slice none 0 0] tp (0, 0))) (hq : w.heap[q]? = some (.cells #[.slice none 0 0] tq (0, 0))) (hne : p ≠ q) (hr : w.heap.size ≤ r) :
    TwoR w w.heap.size p q r tp tq ep eq kp kq (.slice none 0 0) 0 [] (.slice none 0 0) 0 [] :=
  ⟨hp, hq, World.ownsRow_nil _ _ _ _, World.ownsRow_nil _ _ _ _, ⟨(Array.getElem?_eq_some_iff.1 hp).1, (Array.getElem?_eq_some_iff.1 hq).1, hne, hr⟩, fun k hk => (by cases hk), fun k hk => (by cases hk)⟩
theorem goneX_len (n : ByteArray) (t : Option Fi) : (goneX n t).length ≤ 1 := by
  cases t <;> simp [goneX]
theorem putX_len (n : ByteArray) (f t : Option Fi) : (putX n f t).length ≤ 1 := by
  cases t with
  | none => simp [putX]
  | some d => unfold putX; dsimp only; split <;> simp
theorem flat_len {α β : Type} (f : α → List β) (h : ∀ x, (f x).length ≤ 1) : ∀ l : List α, (l.flatMap f).length ≤ l.length
  | [] => Nat.le_refl _
  | x :: l => by
    rw [List.flatMap_cons, List.length_append, List.length_cons]
    have := h x
    have := flat_len f h l
    omega
theorem flat_take {α β : Type} (f : α → List β) {U : List α} {k : Nat} {n : α} (h : U[k]? = some n) : (U.take (k + 1)).flatMap f = (U.take k).flatMap f ++ f n := by
  rw [List.take_add_one, h, List.flatMap_append]
  simp
theorem dataO_len {l : List Fi} {n : ByteArray} (h : ∀ f ∈ l, f.data.length ≤ 1000000) : (dataO (findK Fi.nm l n)).length ≤ 1000000 := by
  cases hf : findK Fi.nm l n with
  | none => exact Nat.zero_le _
  | some f => exact h f (findK_at hf).2
theorem bytesO_find {w w1 : World} {B : Nat} {A : Option Addr} {l : List Fi} {n : ByteArray} (h : Files w B A l) (hb : Below B w w1) : BytesO w1 B (findK Fi.nm l n) := fun f hf => (h.each f (findK_at hf).2).1.below hb (Nat.le_refl _)

set_option maxRecDepth 100000 in
set_option maxHeartbeats 2000000 in
theorem diff_any (A1 A2 : Option Addr) (l1 c1 l2 c2 : Nat) (a b : List Fi) (B : Nat) (w : World) (hl1 : a.length = l1) (hl2 : b.length = l2) (hm1 : l1 ≤ 100000) (hm2 : l2 ≤ 100000) (hc1 : l1 ≤ c1 ∧ 0 ≤ c1) (hc2 : l2 ≤ c2 ∧ 0 ≤ c2) (ha : Ris Fi.nm a) (hb : Ris Fi.nm b) (hfa : Files w B A1 a) (hfb : Files w B A2 b)
    (hdb : ∀ f ∈ b, f.data.length ≤ 1000000) (hB : B ≤ w.heap.size) :
    Calls Try.prog 11 #[.slice A1 l1 c1, .slice A2 l2 c2] w fun e w' => ∃ A' c' os, e = .returned (.slice A' os.length c') ∧ os.map OL.po = diffL (a.map Fi.key) (b.map Fi.key) ∧ Ops w' w'.heap.size A' os ∧ Below w.heap.size w w' := by
  obtain ⟨W1, hW1⟩ : ∃ W1, w.alloc (.cells #[.slice none 0 0] 34) = W1 := ⟨_, rfl⟩
  obtain ⟨W2, hW2⟩ : ∃ W2, W1.alloc (.cells #[.slice none 0 0] 34) = W2 := ⟨_, rfl⟩
  obtain ⟨W3, hW3⟩ : ∃ W3, W2.alloc (.cells #[.slice A1 l1 c1, .slice A2 l2 c2] 22) = W3 := ⟨_, rfl⟩
  have z1 : W1.heap.size = w.heap.size + 1 := by rw [← hW1, World.size_alloc]
  have z2 : W2.heap.size = w.heap.size + 1 + 1 := by rw [← hW2, World.size_alloc, z1]
  have z3 : W3.heap.size = w.heap.size + 1 + 1 + 1 := by rw [← hW3, World.size_alloc, z2]
  have hb3 : Below w.heap.size w W3 := by rw [← hW3, ← hW2, ← hW1]; exact (((Below.refl _ w).alloc (Nat.le_refl _) _).alloc (by simp) _).alloc (by rw [World.size_alloc, World.size_alloc]; omega) _
  have p3 : W3.heap[w.heap.size]? = some (.cells #[.slice none 0 0] 34 (0, 0)) := by
    rw [← hW3]
    refine (Below.heap_alloc W2 _ _ (by omega)).trans ?_
    rw [← hW2]
    refine (Below.heap_alloc W1 _ _ (by omega)).trans ?_
    rw [← hW1]
    exact heap_alloc_new w _
  have q3 : W3.heap[w.heap.size + 1]? = some (.cells #[.slice none 0 0] 34 (0, 0)) := by
    rw [← hW3]
    refine (Below.heap_alloc W2 _ _ (by omega)).trans ?_
    rw [← hW2, ← z1]
    exact heap_alloc_new W1 _
  have r3 : W3.heap[W2.heap.size]? = some (.cells #[.slice A1 l1 c1, .slice A2 l2 c2] 22 (0, 0)) := by rw [← hW3]; exact heap_alloc_new W2 _
  obtain ⟨U, hUd⟩ : ∃ U, uni2 (a.map Fi.key) (b.map Fi.key) = U := ⟨_, rfl⟩
  have hUr : Ris id U := by rw [← hUd]; exact uni_ris _
  have hUm2 : ∀ s, s ∈ U ↔ s ∈ (a.map Fi.key).map Prod.fst ∨ s ∈ (b.map Fi.key).map Prod.fst := by rw [← hUd]; exact uni2_mem _ _
  have hUl : U.length ≤ 200000 := by
    rw [← hUd]
    refine Nat.le_trans (uni_len _) ?_
    rw [List.length_append, List.length_map, List.length_map, List.length_map, List.length_map]
    omega
  have key : ∀ {l : List Fi} {s : ByteArray}, s ∈ (l.map Fi.key).map Prod.fst ↔ ∃ x ∈ l, x.nm = s := fun {l s} => by
    rw [List.map_map, List.mem_map]
    rfl
  have HE := Lib.hid (each_any 19 B W3.heap.size W2.heap.size w.heap.size (w.heap.size + 1) 2 2 (fun r k V => DPost W3 W3.heap.size w.heap.size (w.heap.size + 1) r none 0 [] none 0 [] V ((U.take k).flatMap fun n => goneX n (findK Fi.nm b n)) ((U.take k).flatMap fun n => putX n (findK Fi.nm a n) (findK Fi.nm b n)))
    [⟨A1, c1, a⟩, ⟨A2, c2, b⟩] U W3 (fun _ _ => rfl) rfl (by omega) (by omega)
    (fun _ => ⟨W2.heap.size, 0, rfl, by omega, fun j u hj => by
      rw [Nat.zero_add, cell_of_row _ _ _ _ _ _ r3]
      rw [← hl1, ← hl2]
      simpa [FL.val] using hj⟩) (Nat.le_refl _)
    (by intro q hq; rcases List.mem_cons.1 hq with rfl | hq
        · exact hfa.below hb3 hB
        · rw [List.mem_singleton] at hq; subst hq; exact hfb.below hb3 hB)
    (by intro q hq; rcases List.mem_cons.1 hq with rfl | hq
        · exact ⟨by show a.length ≤ _; omega, by show a.length ≤ c1; omega, hc1.2⟩
        · rw [List.mem_singleton] at hq; subst hq; exact ⟨by show b.length ≤ _; omega, by show b.length ≤ c2; omega, hc2.2⟩)
    (by omega)
    (by intro q hq; rcases List.mem_cons.1 hq with rfl | hq
        · exact ha
        · rw [List.mem_singleton] at hq; subst hq; exact hb)
    hUr
    (by intro s
        rw [hUm2, key, key]
        constructor
        · rintro (h | h)
          · exact ⟨_, List.mem_cons_self .., h⟩
          · exact ⟨_, List.mem_cons_of_mem _ (List.mem_cons_self ..), h⟩
        · rintro ⟨q, hq, h⟩
          rcases List.mem_cons.1 hq with rfl | hq
          · exact .inl h
          · rw [List.mem_singleton] at hq; subst hq; exact .inr h)
    (fun r w1 hb1 hr => by
      have h0 := two_start (ep := 40) (eq := 40) (kp := 7) (kq := 7) p3 q3 (by omega) hr
      exact ⟨none, 0, [], none, 0, [], TPost.below h0 hb1, rfl, rfl, (by intro o ho; cases ho), (by intro o ho; cases ho)⟩)
    (fun r k w1 w2 hI hm hr => hI.third hm hr)
    (fun r k n h w1 hn hI hbw hr hrl hH => by
      obtain ⟨Ag, cg, gx, Ap, cp, px, ht, e1, e2, k1, k2⟩ := hI
      have lx : gx.length ≤ 200000 := by
        have h1 := congrArg List.length e1
        rw [List.length_map] at h1
        rw [h1]
        exact Nat.le_trans (flat_len _ (fun n => goneX_len n _) _) (Nat.le_trans (by rw [List.length_take]; omega) hUl)
      have ly : px.length ≤ 200000 := by
        have h1 := congrArg List.length e2
        rw [List.length_map] at h1
        rw [h1]
        exact Nat.le_trans (flat_len _ (fun n => putX_len n _ _) _) (Nat.le_trans (by rw [List.length_take]; omega) hUl)
      have hz := ht.mod.size
      refine (diffCl_any W3.heap.size B w.heap.size (w.heap.size + 1) r h n (findK Fi.nm a n) (findK Fi.nm b n) Ag Ap cg cp ([] ++ gx) ([] ++ px) w1 ht.two hrl hH (bytesO_find (hfa.below hb3 hB) hbw) (bytesO_find (hfb.below hb3 hB) hbw) (dataO_len hdb) (by rw [List.nil_append]; omega) (by rw [List.nil_append]; omega) (Nat.le_trans (Nat.le_trans hB hb3.size) hz) hz).mono ?_
      rintro e w2 ⟨rfl, hp⟩
      have hc := DPost.comp ht k1 k2 hp
      rw [e1, e2, ← flat_take _ hn, ← flat_take _ hn] at hc
      refine ⟨rfl, hc, ?_⟩
      obtain ⟨_, _, _, _, _, _, hx, _⟩ := hp
      exact hx.low.mono (fun j hj => ⟨by rcases hj.1 with h1 | h1 | h1 <;> omega, hj.2⟩)))
  have HB3 := Lib.hid hb3
  have HG : Hid ((U.flatMap fun n => goneX n (findK Fi.nm b n)) ++ (U.flatMap fun n => putX n (findK Fi.nm a n) (findK Fi.nm b n)) = diffL (a.map Fi.key) (b.map Fi.key)) := by
    show _ = _
    rw [gone_flat, put_flat, gone_uni (ris_key.1 ha) hUr hUm2, put_uni (ris_key.1 hb) hUr hUm2]
    rfl
  have HL : Hid ((U.flatMap fun n => goneX n (findK Fi.nm b n)).length ≤ 200000 ∧ (U.flatMap fun n => putX n (findK Fi.nm a n) (findK Fi.nm b n)).length ≤ 200000) :=
    ⟨Nat.le_trans (flat_len _ (fun n => goneX_len n _) _) hUl, Nat.le_trans (flat_len _ (fun n => putX_len n _ _) _) hUl⟩
  rw [List.take_length, z2] at HE
  clear hl1 hl2 hm1 hm2 hc1 hc2 ha hb hfa hfb hdb hB hb3 p3 q3 r3 hUr hUm2 hUl key hUd
  go_enter Try.func11, Try.ntmps11
  go_wp2_with (first
    | (go_at_call 12; refine HE.out.mono ?_; rintro e w4 ⟨rfl, r, hr, Ag, cg, gx, Ap, cp, px, ht, e1, e2, k1, k2⟩; have HT := Lib.hid ht; have E1 := Lib.hid e1; have E2 := Lib.hid e2; have K1 := Lib.hid k1; have K2 := Lib.hid k2; have x4 : w4.cell? ⟨w.heap.size, 0, none⟩ = some (.slice Ag gx.length cg) := cell_of_row _ _ 0 _ _ _ ht.two.bp; have y4 : w4.cell? ⟨w.heap.size + 1, 0, none⟩ = some (.slice Ap px.length cp) := cell_of_row _ _ 0 _ _ _ ht.two.bq; have LX : gx.length ≤ 200000 := (by have h1 := congrArg List.length e1; rw [List.length_map] at h1; rw [h1]; exact HL.out.1); have LY : px.length ≤ 200000 := (by have h1 := congrArg List.length e2; rw [List.length_map] at h1; rw [h1]; exact HL.out.2); have HRQ : Hid (Cells w4 w4.heap.size Ap (olCells px)) := cells_of_ownF ht.two.rq; clear hr ht e1 e2 k1 k2)
    | (at_builtin; go_must (skip; refine wpList_app w4 olElem rfl (.tmp 12) (.tmp 13) rfl W3.heap.size (.slice Ag gx.length cg) gx.length (olCells gx) rfl HT.out.two.rp w4.heap.size Ap px.length cp (olCells px) rfl (ol_len px) HRQ.out (olCells_one px) (by unfold maxLen; omega) (by omega) HT.out.mod.size ?_; intro A5 c5 w5 hA; have HA := Lib.hid hA; clear hA)))
  go_ret
  have ho := HA.out.own
  rw [← olCells_app] at ho
  have hb4 : Below w.heap.size w w4 := HT.out.low.below HB3.out HB3.out.size (fun k hk => by have := HB3.out.size; rcases hk.1 with h | h | h <;> omega)
  refine ⟨A5, c5, gx ++ px, by rw [List.length_append]; rfl, by rw [List.map_append, E1.out, E2.out, HG.out], ⟨cells_of_ownF ho, fun o ho => ?_⟩, HA.out.below hb4 (Nat.le_trans HB3.out.size HT.out.mod.size) (fun k hk => by have := (HT.out.two.rp.lt k hk).1; have := HB3.out.size; omega)⟩
  rcases List.mem_append.1 ho with ho | ho
  · have h0 := K1.out o ho
    exact ⟨fun hp => absurd hp (by rw [h0]; unfold byteCells; simp), by rw [h0]; exact Nat.zero_le _⟩
  · obtain ⟨h1, h2⟩ := K2.out o ho
    exact ⟨(h1.mod (Mod.of_app HA.out) (fun k hk => .inr (.inr (.inr (.inl hk))))).bytes, h2⟩
end Go.Proofs.Ytfnkbpcimbldbaa
