/- Layer 38: the law PlanLeads. -/
import Derived.Test.YtfnkbpcimbldbaaDoorMgQ32441
namespace Go.Proofs.YtfnkbpcimbldbaaDoor
open Go.RowKit
theorem cells_takeR {w : World} {B : Nat} {A : Option Addr} {xs : List Value} (h : Cells w B A xs) (p : Nat) : Cells w B A (xs.take p) := fun hp => by
  rw [List.length_take] at hp
  obtain ⟨b, o, e, hlt, hc⟩ := h (by omega)
  refine ⟨b, o, e, hlt, fun j u hj => hc j u ?_⟩
  rw [List.getElem?_take] at hj
  split at hj
  · exact hj
  · cases hj
theorem cells_dropR {w : World} {B b o : Nat} {xs : List Value} (h : Cells w B (some ⟨b, o, none⟩) xs) (p : Nat) : Cells w B (some ⟨b, o + p, none⟩) (xs.drop p) := fun hp => by
  rw [List.length_drop] at hp
  obtain ⟨b', o', e, hlt, hc⟩ := h (by omega)
  injection e with e
  injection e with e1 e2 e3
  subst e1 e2
  refine ⟨b, o + p, rfl, hlt, fun j u hj => ?_⟩
  rw [List.getElem?_drop] at hj
  rw [Nat.add_assoc]
  exact hc _ _ hj
set_option maxRecDepth 100000 in
set_option maxHeartbeats 2000000 in
theorem diffC_any (A1 A2 : Option Addr) (l1 c1 l2 c2 : Nat) (a b : List Fi) (B : Nat) (w : World) (hl1 : a.length = l1) (hl2 : b.length = l2) (hm1 : l1 ≤ 100000) (hm2 : l2 ≤ 100000) (hc1 : l1 ≤ c1 ∧ 0 ≤ c1) (hc2 : l2 ≤ c2 ∧ 0 ≤ c2) (ha : Ris Fi.nm a) (hb : Ris Fi.nm b) (hfa : Files w B A1 a) (hfb : Files w B A2 b)
    (hdb : ∀ f ∈ b, f.data.length ≤ 1000000) (hB : B ≤ w.heap.size) :
    Calls Tryd.prog 13 #[.slice A1 l1 c1, .slice A2 l2 c2] w fun e w' => ∃ A' c' os, e = .returned (.slice A' os.length c') ∧ os.map OL.po = diffL (a.map Fi.key) (b.map Fi.key) ∧ Ops w' w'.heap.size A' os ∧ os.length ≤ c' ∧ Below w.heap.size w w' := by
  obtain ⟨W1, hW1⟩ : ∃ W1, w.alloc (.cells #[.slice none 0 0] 26) = W1 := ⟨_, rfl⟩
  obtain ⟨W2, hW2⟩ : ∃ W2, W1.alloc (.cells #[.slice none 0 0] 26) = W2 := ⟨_, rfl⟩
  obtain ⟨W3, hW3⟩ : ∃ W3, W2.alloc (.cells #[.slice A1 l1 c1, .slice A2 l2 c2] 22) = W3 := ⟨_, rfl⟩
  have z1 : W1.heap.size = w.heap.size + 1 := by rw [← hW1, World.size_alloc]
  have z2 : W2.heap.size = w.heap.size + 1 + 1 := by rw [← hW2, World.size_alloc, z1]
  have z3 : W3.heap.size = w.heap.size + 1 + 1 + 1 := by rw [← hW3, World.size_alloc, z2]
  have hb3 : Below w.heap.size w W3 := by rw [← hW3, ← hW2, ← hW1]; exact (((Below.refl _ w).alloc (Nat.le_refl _) _).alloc (by simp) _).alloc (by rw [World.size_alloc, World.size_alloc]; omega) _
  have p3 : W3.heap[w.heap.size]? = some (.cells #[.slice none 0 0] 26 (0, 0)) := by
    rw [← hW3]
    refine (Below.heap_alloc W2 _ _ (by omega)).trans ?_
    rw [← hW2]
    refine (Below.heap_alloc W1 _ _ (by omega)).trans ?_
    rw [← hW1]
    exact heap_alloc_new w _
  have q3 : W3.heap[w.heap.size + 1]? = some (.cells #[.slice none 0 0] 26 (0, 0)) := by
    rw [← hW3]
    refine (Below.heap_alloc W2 _ _ (by omega)).trans ?_
    rw [← hW2, ← z1]
    exact heap_alloc_new W1 _
  have r3 : W3.heap[W2.heap.size]? = some (.cells #[.slice A1 l1 c1, .slice A2 l2 c2] 22 (0, 0)) := by rw [← hW3]; exact heap_alloc_new W2 _
  obtain ⟨U, hUd⟩ : ∃ U, uni2 (a.map Fi.key) (b.map Fi.key) = U := ⟨_, rfl⟩
  have hUr : Ris id U := by rw [← hUd]; exact uni_ris _
  have hUm2 : ∀ s, s ∈ U ↔ s ∈ (a.map Fi.key).map Prod.fst ∨ s ∈ (b.map Fi.key).map Prod.fst := by rw [← hUd]; exact uni2_mem _ _
  have hUl : U.length ≤ 200000 := by
    rw [← hUd]
    refine Nat.le_trans (uni_len _) ?_
    rw [List.length_append, List.length_map, List.length_map, List.length_map, List.length_map]
    omega
  have key : ∀ {l : List Fi} {s : ByteArray}, s ∈ (l.map Fi.key).map Prod.fst ↔ ∃ x ∈ l, x.nm = s := fun {l s} => by
    rw [List.map_map, List.mem_map]
    rfl
  have HE := Lib.hid (each_any 25 B W3.heap.size W2.heap.size w.heap.size (w.heap.size + 1) 2 2 (fun r k V => DPost W3 W3.heap.size w.heap.size (w.heap.size + 1) r none 0 [] none 0 [] V ((U.take k).flatMap fun n => goneX n (findK Fi.nm b n)) ((U.take k).flatMap fun n => putX n (findK Fi.nm a n) (findK Fi.nm b n)))
    [⟨A1, c1, a⟩, ⟨A2, c2, b⟩] U W3 (fun _ _ => rfl) rfl (by omega) (by omega)
    (fun _ => ⟨W2.heap.size, 0, rfl, by omega, fun j u hj => by
      rw [Nat.zero_add, cell_of_row _ _ _ _ _ _ r3]
      rw [← hl1, ← hl2]
      simpa [FL.val] using hj⟩) (Nat.le_refl _)
    (by intro q hq; rcases List.mem_cons.1 hq with rfl | hq
        · exact hfa.below hb3 hB
        · rw [List.mem_singleton] at hq; subst hq; exact hfb.below hb3 hB)
    (by intro q hq; rcases List.mem_cons.1 hq with rfl | hq
        · exact ⟨by show a.length ≤ _; omega, by show a.length ≤ c1; omega, hc1.2⟩
        · rw [List.mem_singleton] at hq; subst hq; exact ⟨by show b.length ≤ _; omega, by show b.length ≤ c2; omega, hc2.2⟩)
    (by omega)
    (by intro q hq; rcases List.mem_cons.1 hq with rfl | hq
        · exact ha
        · rw [List.mem_singleton] at hq; subst hq; exact hb)
    hUr
    (by intro s
        rw [hUm2, key, key]
        constructor
        · rintro (h | h)
          · exact ⟨_, List.mem_cons_self .., h⟩
          · exact ⟨_, List.mem_cons_of_mem _ (List.mem_cons_self ..), h⟩
        · rintro ⟨q, hq, h⟩
          rcases List.mem_cons.1 hq with rfl | hq
          · exact .inl h
          · rw [List.mem_singleton] at hq; subst hq; exact .inr h)
    (fun r w1 hb1 hr => by
      have h0 := two_start (ep := 49) (eq := 49) (kp := 7) (kq := 7) p3 q3 (by omega) hr
      exact ⟨none, 0, [], none, 0, [], TPost.below h0 hb1, rfl, rfl, (by intro o ho; cases ho), (by intro o ho; cases ho)⟩)
    (fun r k w1 w2 hI hm hr => hI.third hm hr)
    (fun r k n h w1 hn hI hbw hr hrl hH => by
      obtain ⟨Ag, cg, gx, Ap, cp, px, ht, e1, e2, k1, k2⟩ := hI
      have lx : gx.length ≤ 200000 := by
        have h1 := congrArg List.length e1
        rw [List.length_map] at h1
        rw [h1]
        exact Nat.le_trans (flat_len _ (fun n => goneX_len n _) _) (Nat.le_trans (by rw [List.length_take]; omega) hUl)
      have ly : px.length ≤ 200000 := by
        have h1 := congrArg List.length e2
        rw [List.length_map] at h1
        rw [h1]
        exact Nat.le_trans (flat_len _ (fun n => putX_len n _ _) _) (Nat.le_trans (by rw [List.length_take]; omega) hUl)
      have hz := ht.mod.size
      refine (diffCl_any W3.heap.size B w.heap.size (w.heap.size + 1) r h n (findK Fi.nm a n) (findK Fi.nm b n) Ag Ap cg cp ([] ++ gx) ([] ++ px) w1 ht.two hrl hH (bytesO_find (hfa.below hb3 hB) hbw) (bytesO_find (hfb.below hb3 hB) hbw) (dataO_len hdb) (by rw [List.nil_append]; omega) (by rw [List.nil_append]; omega) (Nat.le_trans (Nat.le_trans hB hb3.size) hz) hz).mono ?_
      rintro e w2 ⟨rfl, hp⟩
      have hc := DPost.comp ht k1 k2 hp
      rw [e1, e2, ← flat_take _ hn, ← flat_take _ hn] at hc
      refine ⟨rfl, hc, ?_⟩
      obtain ⟨_, _, _, _, _, _, hx, _⟩ := hp
      exact hx.low.mono (fun j hj => ⟨by rcases hj.1 with h1 | h1 | h1 <;> omega, hj.2⟩)))
  have HB3 := Lib.hid hb3
  have HG : Hid ((U.flatMap fun n => goneX n (findK Fi.nm b n)) ++ (U.flatMap fun n => putX n (findK Fi.nm a n) (findK Fi.nm b n)) = diffL (a.map Fi.key) (b.map Fi.key)) := by
    show _ = _
    rw [gone_flat, put_flat, gone_uni (ris_key.1 ha) hUr hUm2, put_uni (ris_key.1 hb) hUr hUm2]
    rfl
  have HL : Hid ((U.flatMap fun n => goneX n (findK Fi.nm b n)).length ≤ 200000 ∧ (U.flatMap fun n => putX n (findK Fi.nm a n) (findK Fi.nm b n)).length ≤ 200000) :=
    ⟨Nat.le_trans (flat_len _ (fun n => goneX_len n _) _) hUl, Nat.le_trans (flat_len _ (fun n => putX_len n _ _) _) hUl⟩
  rw [List.take_length, z2] at HE
  clear hl1 hl2 hm1 hm2 hc1 hc2 ha hb hfa hfb hdb hB hb3 p3 q3 r3 hUr hUm2 hUl key hUd
  go_enter Tryd.func13, Tryd.ntmps13
  go_wp2_with (first
    | (go_at_call 24; refine HE.out.mono ?_; rintro e w4 ⟨rfl, r, hr, Ag, cg, gx, Ap, cp, px, ht, e1, e2, k1, k2⟩; have HT := Lib.hid ht; have E1 := Lib.hid e1; have E2 := Lib.hid e2; have K1 := Lib.hid k1; have K2 := Lib.hid k2; have x4 : w4.cell? ⟨w.heap.size, 0, none⟩ = some (.slice Ag gx.length cg) := cell_of_row _ _ 0 _ _ _ ht.two.bp; have y4 : w4.cell? ⟨w.heap.size + 1, 0, none⟩ = some (.slice Ap px.length cp) := cell_of_row _ _ 0 _ _ _ ht.two.bq; have LX : gx.length ≤ 200000 := (by have h1 := congrArg List.length e1; rw [List.length_map] at h1; rw [h1]; exact HL.out.1); have LY : px.length ≤ 200000 := (by have h1 := congrArg List.length e2; rw [List.length_map] at h1; rw [h1]; exact HL.out.2); have HRQ : Hid (Cells w4 w4.heap.size Ap (olCells px)) := cells_of_ownF ht.two.rq; clear hr ht e1 e2 k1 k2)
    | (at_builtin; go_must (skip; refine wpList_app w4 olElem rfl (.tmp 12) (.tmp 13) rfl W3.heap.size (.slice Ag gx.length cg) gx.length (olCells gx) rfl HT.out.two.rp w4.heap.size Ap px.length cp (olCells px) rfl (ol_len px) HRQ.out (olCells_one px) (by unfold maxLen; omega) (by omega) HT.out.mod.size ?_; intro A5 c5 w5 hA; have HA := Lib.hid hA; clear hA)))
  go_ret
  have ho := HA.out.own
  rw [← olCells_app] at ho
  have hb4 : Below w.heap.size w w4 := HT.out.low.below HB3.out HB3.out.size (fun k hk => by have := HB3.out.size; rcases hk.1 with h | h | h <;> omega)
  refine ⟨A5, c5, gx ++ px, by rw [List.length_append]; rfl, by rw [List.map_append, E1.out, E2.out, HG.out], ⟨cells_of_ownF ho, fun o ho => ?_⟩, by rw [List.length_append]; exact own_capF HA.out.own, HA.out.below hb4 (Nat.le_trans HB3.out.size HT.out.mod.size) (fun k hk => by have := (HT.out.two.rp.lt k hk).1; have := HB3.out.size; omega)⟩
  rcases List.mem_append.1 ho with ho | ho
  · have h0 := K1.out o ho
    exact ⟨fun hp => absurd hp (by rw [h0]; unfold byteCells; simp), by rw [h0]; exact Nat.zero_le _⟩
  · obtain ⟨h1, h2⟩ := K2.out o ho
    exact ⟨(h1.mod (Mod.of_app HA.out) (fun k hk => .inr (.inr (.inr (.inl hk))))).bytes, h2⟩
theorem rightL_elim {fs : List Fi} (h : rightL fs = true) : fs.length ≤ 200 ∧ (∀ f ∈ fs, okF f = true) ∧ Ris Fi.nm fs := by
  unfold rightL at h
  rw [Bool.and_eq_true, Bool.and_eq_true] at h
  exact ⟨of_decide_eq_true h.1.1, List.all_eq_true.1 h.1.2, mapB_ris h.2⟩
theorem olCells_take (os : List OL) (i : Nat) : olCells (os.take i) = (olCells os).take (i * 7) := by
  induction os generalizing i with
  | nil => simp [olCells]
  | cons x t ih =>
    cases i with
    | zero => simp [olCells]
    | succ i =>
      show x.cells ++ olCells (t.take i) = (x.cells ++ olCells t).take ((i + 1) * 7)
      rw [ih, show (i + 1) * 7 = 7 + i * 7 by omega, show (7 : Nat) = x.cells.length from rfl, List.take_length_add_append]
theorem olCells_drop (os : List OL) (i : Nat) : olCells (os.drop i) = (olCells os).drop (i * 7) := by
  induction os generalizing i with
  | nil => simp [olCells]
  | cons x t ih =>
    cases i with
    | zero => simp [olCells]
    | succ i =>
      show olCells (t.drop i) = (x.cells ++ olCells t).drop ((i + 1) * 7)
      rw [ih, show (i + 1) * 7 = 7 + i * 7 by omega, show (7 : Nat) = x.cells.length from rfl, List.drop_length_add_append]
set_option maxRecDepth 100000 in
set_option maxHeartbeats 4000000 in
theorem planLeads_any (A0 A1 : Option Addr) (l0 c0 l1 c1 : Nat) (a b : List Fi) (leave : Int) (W0 : World) (hl0 : a.length = l0) (hl1 : b.length = l1) (hc0 : l0 ≤ c0) (hc1 : l1 ≤ c1) (hfa : Files W0 W0.heap.size A0 a) (hfb : Files W0 W0.heap.size A1 b) :
    Calls Tryd.prog 5 #[.slice A0 l0 c0, .slice A1 l1 c1, .int .i64 leave] W0 fun e w' => e = .returned (.bool true) ∧ Below W0.heap.size W0 w' := by
  have HF0 := Lib.hid hfa
  have HF1 := Lib.hid hfb
  have HL0 := Lib.hid hl0
  have HL1 := Lib.hid hl1
  have HLV : Hid (∀ V, Below W0.heap.size W0 V → Calls Tryd.prog 8 #[] V fun e w' => e = .returned (.bool true) ∧ Below W0.heap.size W0 w') := fun V hV => (lives38_any V).mono fun e w' ⟨h1, h2⟩ => ⟨h1, hV.trans (h2.mono hV.size)⟩
  have HFI : Hid (∀ V, Below W0.heap.size W0 V → Files V W0.heap.size A0 a ∧ Files V W0.heap.size A1 b) := fun V hV => ⟨HF0.out.below hV (Nat.le_refl _), HF1.out.below hV (Nat.le_refl _)⟩
  clear hfa hfb hl0 hl1
  go_enter Tryd.func5, Tryd.ntmps5
  go_wp2_with fail
  refine (wide38_any A0 l0 c0 a W0.heap.size W0 HL0.out HF0.out).mono ?_
  rintro e wq ⟨o0, rfl, hwq, ho0⟩
  have HO0 := Lib.hid ho0
  subst hwq
  clear ho0
  cases o0 with
  | true =>
    go_wp2_with fail
    refine (HLV.out _ (Below.refl W0.heap.size W0)).mono ?_
    rintro e wL ⟨rfl, hbL⟩
    go_wp2
    go_ret
    exact ⟨rfl, hbL⟩
  | false =>
    have HS0 := Lib.hid (HO0.out rfl)
    have hs0 : l0 ≤ 250 := by have h1 := HS0.out.1; have h2 := HL0.out; omega
    clear HO0
    go_wp2_with fail
    refine (wide38_any A1 l1 c1 b W0.heap.size W0 HL1.out HF1.out).mono ?_
    rintro e wq ⟨o1, rfl, hwq, ho1⟩
    have HO1 := Lib.hid ho1
    subst hwq
    clear ho1
    cases o1 with
    | true =>
      go_wp2_with fail
      refine (HLV.out _ (Below.refl W0.heap.size W0)).mono ?_
      rintro e wL ⟨rfl, hbL⟩
      go_wp2
      go_ret
      exact ⟨rfl, hbL⟩
    | false =>
      have HS1 := Lib.hid (HO1.out rfl)
      have hs1 : l1 ≤ 250 := by have h1 := HS1.out.1; have h2 := HL1.out; omega
      clear HO1
      go_wp2_with fail
      obtain ⟨q0, hq0⟩ : ∃ q, rightL a = q := ⟨_, rfl⟩
      have HM0 := Lib.hid (refRight38_any A0 l0 c0 a W0.heap.size W0 HL0.out (by omega) HS0.out.2 (HFI.out W0 (Below.refl W0.heap.size W0)).1 (Below.refl W0.heap.size W0).size)
      rw [hq0] at HM0
      refine HM0.out.mono ?_
      rintro e w1 ⟨rfl, hb⟩
      have HY1 := Lib.hid ((Below.refl W0.heap.size W0).trans (hb.mono (Below.refl W0.heap.size W0).size))
      have HQ0 := Lib.hid hq0
      clear hb hq0 HM0
      cases q0 with
      | false =>
        go_wp2_with fail
        refine (HLV.out _ HY1.out).mono ?_
        rintro e wL ⟨rfl, hbL⟩
        go_wp2
        go_ret
        exact ⟨rfl, hbL⟩
      | true =>
        go_wp2_with fail
        obtain ⟨q1, hq1⟩ : ∃ q, rightL b = q := ⟨_, rfl⟩
        have HM1 := Lib.hid (refRight38_any A1 l1 c1 b W0.heap.size w1 HL1.out (by omega) HS1.out.2 (HFI.out w1 HY1.out).2 HY1.out.size)
        rw [hq1] at HM1
        refine HM1.out.mono ?_
        rintro e w2 ⟨rfl, hb⟩
        have HY2 := Lib.hid (HY1.out.trans (hb.mono HY1.out.size))
        have HQ1 := Lib.hid hq1
        clear hb hq1 HM1
        cases q1 with
        | false =>
          go_wp2_with fail
          refine (HLV.out _ HY2.out).mono ?_
          rintro e wL ⟨rfl, hbL⟩
          go_wp2
          go_ret
          exact ⟨rfl, hbL⟩
        | true =>
          have HRA := Lib.hid (rightL_elim HQ0.out)
          have HRB := Lib.hid (rightL_elim HQ1.out)
          have HOA : Hid (∀ V B, Below W0.heap.size W0 V → W0.heap.size ≤ B → ∀ f ∈ a, OkF V B f) := fun V B hV hB f hf => ⟨((HF0.out.each f hf).1.below hV (Nat.le_refl _)).more hB, (HS0.out.2 f hf).2, (HS0.out.2 f hf).1⟩
          have HOB : Hid (∀ V B, Below W0.heap.size W0 V → W0.heap.size ≤ B → ∀ f ∈ b, OkF V B f) := fun V B hV hB f hf => ⟨((HF1.out.each f hf).1.below hV (Nat.le_refl _)).more hB, (HS1.out.2 f hf).2, (HS1.out.2 f hf).1⟩
          have HDL : Hid (∀ (x y : List Fi) (os : List OL), x.length ≤ 250 → y.length ≤ 250 → os.map OL.po = diffL (x.map Fi.key) (y.map Fi.key) → os.length ≤ 500) := fun x y os hx hy h => by
            have h1 := congrArg List.length h
            rw [List.length_map] at h1
            have h2 := diffL_len (x.map Fi.key) (y.map Fi.key)
            rw [List.length_map, List.length_map] at h2
            omega
          have HMD := Lib.hid (diffC_any A0 A1 l0 c0 l1 c1 a b W0.heap.size w2 HL0.out HL1.out (by omega) (by omega) ⟨hc0, Nat.zero_le _⟩ ⟨hc1, Nat.zero_le _⟩ HRA.out.2.2 HRB.out.2.2 (HFI.out w2 HY2.out).1 (HFI.out w2 HY2.out).2 (fun f hf => by have := (HS1.out.2 f hf).2; omega) HY2.out.size)
          go_wp2_with fail
          refine HMD.out.mono ?_
          rintro e w3 ⟨Ad, cd, os, rfl, hpo, hops, hcd, hb3⟩
          have HPO := Lib.hid hpo
          have HOP := Lib.hid hops
          have HY3 := Lib.hid (HY2.out.trans (hb3.mono HY2.out.size))
          have hol := HDL.out a b os (by rw [HL0.out]; omega) (by rw [HL1.out]; omega) hpo
          have HLD := Lib.hid (diff_lead HRA.out.2.2 HRB.out.2.2 HRB.out.1 HRB.out.2.1 ((xo_po os).trans hpo))
          clear hpo hops hb3 HMD
          have HAP := Lib.hid (applyAll_any A0 Ad l0 c0 os.length cd a (os.map OL.xo) w3.heap.size w3 HL0.out (by rw [List.length_map]) (by omega) hol HRA.out.2.2 ((HFI.out w3 HY3.out).1.more HY3.out.size) (by rw [xo_of_ol]; exact HOP.out.row) (HOA.out w3 _ HY3.out HY3.out.size) (xo_ok HOP.out HPO.out HS0.out.2 HS1.out.2) (xo_well os) (Nat.le_refl _))
          rw [HLD.out.1] at HAP
          go_wp2_with fail
          refine HAP.out.mono ?_
          rintro e w4 ⟨Ax, cx, xs, rfl, hkx, hfx, hcx, hb4⟩
          have HKX := Lib.hid (hkx.trans HLD.out.2)
          have HFX := Lib.hid hfx
          have H34 := Lib.hid hb4
          have HY4 := Lib.hid (HY3.out.trans (hb4.mono HY3.out.size))
          clear hkx hfx hcx hb4 HAP
          have HAP := Lib.hid (back38_any A0 Ad l0 c0 os.length cd a (os.map OL.xo) w3.heap.size w4 HL0.out (by rw [List.length_map]) (by omega) hol hc0 HRA.out.2.2 ((HFI.out w4 HY4.out).1.more HY3.out.size) (by rw [xo_of_ol]; exact HOP.out.row.below H34.out (Nat.le_refl _)) (HOA.out w4 _ HY4.out HY3.out.size) (fun x hx => (xo_ok HOP.out HPO.out HS0.out.2 HS1.out.2 x hx).up H34.out (Nat.le_refl _)) (xo_well os) H34.out.size)
          rw [HLD.out.1] at HAP
          go_wp2_with fail
          refine HAP.out.mono ?_
          rintro e w5 ⟨Ab, cb, ps, rfl, hpb, hopb, hb5⟩
          have HPB : Hid (ps.map OL.po = diffL (b.map Fi.key) (a.map Fi.key)) := by
            show _ = _
            rw [hpb]
            unfold backL
            rw [if_pos HLD.out.1, HLD.out.2]
          have HOPB := Lib.hid hopb
          have H45 := Lib.hid hb5
          have HY5 := Lib.hid (HY4.out.trans (hb5.mono HY4.out.size))
          have hpl := HDL.out b a ps (by rw [HL1.out]; omega) (by rw [HL0.out]; omega) HPB.out
          have HLB := Lib.hid (diff_lead HRB.out.2.2 HRA.out.2.2 HRA.out.1 HRA.out.2.1 ((xo_po ps).trans HPB.out))
          clear hpb hopb hb5 HAP
          have HAP := Lib.hid (applyAll_any A1 Ab l1 c1 ps.length cb b (ps.map OL.xo) w5.heap.size w5 HL1.out (by rw [List.length_map]) (by omega) hpl HRB.out.2.2 ((HFI.out w5 HY5.out).2.more HY5.out.size) (by rw [xo_of_ol]; exact HOPB.out.row) (HOB.out w5 _ HY5.out HY5.out.size) (xo_ok HOPB.out HPB.out HS1.out.2 HS0.out.2) (xo_well ps) (Nat.le_refl _))
          rw [HLB.out.1] at HAP
          go_wp2_with fail
          refine HAP.out.mono ?_
          rintro e w6 ⟨Ay, cy, ys, rfl, hky, hfy, hcy, hb6⟩
          have HKY := Lib.hid (hky.trans HLB.out.2)
          have HFY := Lib.hid hfy
          have H46 := Lib.hid (H45.out.trans (hb6.mono H45.out.size))
          have HY6 := Lib.hid (HY5.out.trans (hb6.mono HY5.out.size))
          clear hky hfy hcy hb6 HAP
          have hxl : xs.length ≤ 1000000 := by have h1 := congrArg List.length HKX.out; rw [List.length_map, List.length_map] at h1; have := HL1.out; omega
          have hyl : ys.length ≤ 1000000 := by have h1 := congrArg List.length HKY.out; rw [List.length_map, List.length_map] at h1; have := HL0.out; omega
          have HSM := Lib.hid (refSame25_any Ax xs.length cx A1 l1 c1 xs b w6.heap.size w6 rfl HL1.out hxl ((HFX.out.below H46.out (Nat.le_refl _)).more H46.out.size) ((HFI.out w6 HY6.out).2.more HY6.out.size))
          rw [eqF_yes HKX.out] at HSM
          go_wp2_with fail
          refine HSM.out.mono ?_
          rintro e w7 ⟨rfl, n7, hw7⟩
          have H67 : Hid (Below w6.heap.size w6 w7) := by show Below _ _ _; rw [← hw7]; exact Below.drewN (Below.refl _ _) _
          clear hw7 HSM
          have HY7 := Lib.hid (HY6.out.trans (H67.out.mono HY6.out.size))
          have HSM := Lib.hid (refSame25_any Ay ys.length cy A0 l0 c0 ys a w6.heap.size w7 rfl HL0.out hyl (HFY.out.below H67.out (Nat.le_refl _)) ((HFI.out w7 HY7.out).1.more HY6.out.size))
          rw [eqF_yes HKY.out] at HSM
          go_wp2_with fail
          refine HSM.out.mono ?_
          rintro e w8 ⟨rfl, n8, hw8⟩
          have H68 : Hid (Below w6.heap.size w6 w8) := by show Below _ _ _; rw [← hw8]; exact Below.drewN H67.out _
          clear hw8 HSM
          have HY8 := Lib.hid (HY6.out.trans (H68.out.mono HY6.out.size))
          have HMD := Lib.hid (diff_any A0 A0 l0 c0 l0 c0 a a W0.heap.size w8 HL0.out HL0.out (by omega) (by omega) ⟨hc0, Nat.zero_le _⟩ ⟨hc0, Nat.zero_le _⟩ HRA.out.2.2 HRA.out.2.2 (HFI.out w8 HY8.out).1 (HFI.out w8 HY8.out).1 (fun f hf => by have := (HS0.out.2 f hf).2; omega) HY8.out.size)
          go_wp2_with fail
          refine HMD.out.mono ?_
          rintro e w9 ⟨Ae, ce, es, rfl, hpe, hope, hb9⟩
          have hes : es = [] := by
            rw [diff_self (ris_key.1 HRA.out.2.2), List.map_eq_nil_iff] at hpe
            exact hpe
          subst hes
          have HY9 := Lib.hid (HY8.out.trans (hb9.mono HY8.out.size))
          have H39 := Lib.hid (H34.out.trans ((H46.out.trans ((H68.out.trans (hb9.mono H68.out.size)).mono H46.out.size)).mono H34.out.size))
          clear hpe hope hb9 HMD
          by_cases hn0 : leave < 0
          · have tn : decide (leave < 0) = true := decide_eq_true hn0
            go_wp2_with fail
            refine (HLV.out _ HY9.out).mono ?_
            rintro e wL ⟨rfl, hbL⟩
            go_wp2
            go_ret
            exact ⟨rfl, hbL⟩
          · have tn : decide (leave < 0) = false := decide_eq_false hn0
            by_cases hnl : (os.length : Int) ≤ leave
            · have tl : decide ((os.length : Int) ≤ leave) = true := decide_eq_true hnl
              go_wp2_with fail
              refine (HLV.out _ HY9.out).mono ?_
              rintro e wL ⟨rfl, hbL⟩
              go_wp2
              go_ret
              exact ⟨rfl, hbL⟩
            · have tl : decide ((os.length : Int) ≤ leave) = false := decide_eq_false hnl
              obtain ⟨i, rfl⟩ : ∃ i : Nat, leave = (i : Int) := ⟨leave.toNat, by omega⟩
              have hil : i < os.length := by omega
              have HIL := Lib.hid hil
              obtain ⟨bd, od, rfl, hbd, hcd⟩ := HOP.out.row (by rw [ol_len]; omega)
              have HCD : Hid (∀ V, Below w3.heap.size w3 V → Cells V V.heap.size (some ⟨bd, od, none⟩) (olCells (os.take i)) ∧ Cells V V.heap.size (some ⟨bd, od + (i + 1) * 7, none⟩) (olCells (os.drop (i + 1)))) := fun V hV => by
                have h1 := (HOP.out.row.below hV (Nat.le_refl _)).more hV.size
                refine ⟨?_, ?_⟩
                · rw [olCells_take]
                  exact cells_takeR h1 _
                · rw [olCells_drop]
                  exact cells_dropR h1 _
              have hw1 : IntKind.i64.wrap ((i : Int) + 1) = (i : Int) + 1 := IntWalk.i64_in _ (by omega)
              have hicd : i ≤ cd := by omega
              have hicd1 : i + 1 ≤ cd := by omega
              have hil1 : i + 1 ≤ os.length := hil
              have HTL : Hid ((os.take i).length = i) := by show _ = _; rw [List.length_take]; omega
              have HDLN : Hid ((os.drop (i + 1)).length = os.length - (i + 1)) := by show _ = _; rw [List.length_drop]
              obtain ⟨V1, hV1⟩ : ∃ V1, (w9.alloc (.cells #[] 49)).drew = V1 := ⟨_, rfl⟩
              have H9V : Hid (Below w9.heap.size w9 V1) := by show Below _ _ _; rw [← hV1]; exact Below.drewN ((Below.refl _ w9).alloc (Nat.le_refl _) _) 1
              have HOV : Hid (V1.ownsRow w9.heap.size 49 7 (.slice (some ⟨w9.heap.size, 0, none⟩) 0 0) 0 []) := ⟨rfl, .inr ⟨w9.heap.size, 0, #[], rfl, Nat.le_refl _, by rw [← hV1]; exact heap_alloc_new w9 _, Nat.le_refl _, by unfold maxLen; omega, rfl, rfl⟩⟩
              have HV1 := Lib.hid hV1
              have H3V := Lib.hid (H39.out.trans (H9V.out.mono H39.out.size))
              clear hbd hcd hV1
              have hp0 : (0 : Int) ≤ (i : Int) + 1 := by omega
              have hp1 : (i : Int) + 1 ≤ (os.length : Int) := by omega
              by_cases hcc : cd = i + 1
              · have hoe : os.length = i + 1 := by omega
                subst hcc
                have hp2 : (i : Int) ≤ (i : Int) + 1 := by omega
                go_wp2_with fail
                go_region_law (first
                  | (refine step_app ((w9.alloc (.cells #[] 49)).drew) olElem (by rfl) (.tmp 93) (.tmp 96) (by rfl) w9.heap.size (.slice (some ⟨w9.heap.size, 0, none⟩) 0 0) 0 [] (by rfl) (by rw [HV1.out]; exact HOV.out) V1.heap.size (some ⟨bd, od, none⟩) i (i + 1) (olCells (os.take i)) (by rfl) (by rw [ol_len, HTL.out]) (by rw [HV1.out]; exact (HCD.out V1 H3V.out).1) (olCells_one _) (by unfold maxLen; omega) (by omega) (by rw [HV1.out]; exact H9V.out.size) ?_; intro A5 c5 w10 hA; rw [Nat.zero_add, List.nil_append] at hA; (try rw [Nat.zero_add]); have HA1 : Hid (App V1 w9.heap.size 49 7 (.slice (some ⟨w9.heap.size, 0, none⟩) 0 0) i (olCells (os.take i)) w10 (.slice A5 i c5)) := (by rw [← HV1.out]; exact hA); have H3W := Lib.hid (hA.below (show Below w3.heap.size w3 _ from H39.out.trans ((Below.drewN ((Below.refl _ w9).alloc (Nat.le_refl _) _) 1).mono H39.out.size)) (Nat.le_trans H39.out.size (by rw [HV1.out]; exact H9V.out.size)) (fun q hq => Nat.le_trans H39.out.size ((HOV.out.lt q hq).1))); clear hA)
                  | (refine step_app w10 olElem (by rfl) (.tmp 97) (.tmp 101) (by rfl) w9.heap.size (.slice A5 i c5) i (olCells (os.take i)) (by rfl) HA1.out.own w10.heap.size (some ⟨bd, od, none⟩) (0) (0) (olCells (os.drop (i + 1))) (by rfl) (by rw [ol_len, HDLN.out]; omega) (fun hp => absurd hp (by rw [ol_len, HDLN.out]; omega)) (olCells_one _) (by unfold maxLen; omega) (by omega) (Nat.le_trans H9V.out.size HA1.out.grow.size) ?_; intro A6 c6 w11 hA; have HA2 := Lib.hid hA; clear hA))
                all_goals
                  have H311 := Lib.hid (HA2.out.below H3W.out H3W.out.size (fun q hq => Nat.le_trans H39.out.size ((HA1.out.own.lt q hq).1)))
                  have HY11 := Lib.hid (HY3.out.trans (H311.out.mono HY3.out.size))
                  have hown := HA2.out.own
                  rw [← olCells_app] at hown
                  have hfe : i = (os.take i ++ os.drop (i + 1)).length := by rw [List.length_append, HTL.out, HDLN.out]; omega
                  have hfm : (os.take i ++ os.drop (i + 1)).map OL.xo = (os.map OL.xo).take i ++ (os.map OL.xo).drop (i + 1) := by rw [List.map_append, List.map_take, List.map_drop]
                  have hsub : ∀ x ∈ (os.take i ++ os.drop (i + 1)).map OL.xo, x ∈ os.map OL.xo := fun x hx => by
                    obtain ⟨y, hy, rfl⟩ := List.mem_map.1 hx
                    rcases List.mem_append.1 hy with hy | hy
                    · exact List.mem_map.2 ⟨y, List.mem_of_mem_take hy, rfl⟩
                    · exact List.mem_map.2 ⟨y, List.mem_of_mem_drop hy, rfl⟩
                  obtain ⟨fw, hfw⟩ : ∃ fw, os.take i ++ os.drop (i + 1) = fw := ⟨_, rfl⟩
                  rw [hfw] at hown hfe hfm hsub
                  rw [Nat.add_zero] at hown
                  have HFM := Lib.hid hfm
                  have hfl : i ≤ 500 := by omega
                  have hfl2 : fw.length ≤ 500 := by omega
                  have HAP := Lib.hid (applyAll_any A0 A6 l0 c0 i c6 a (fw.map OL.xo) w11.heap.size w11 HL0.out (by rw [List.length_map]; omega) (by omega) hfl HRA.out.2.2 ((HFI.out w11 HY11.out).1.more HY11.out.size) (by rw [xo_of_ol]; exact cells_of_ownF hown) (HOA.out w11 _ HY11.out HY11.out.size) (fun x hx => (xo_ok HOP.out HPO.out HS0.out.2 HS1.out.2 x (hsub x hx)).up H311.out H311.out.size) (xo_well fw) (Nat.le_refl _))
                  obtain ⟨E, hE⟩ : ∃ E, (applyAll a (fw.map OL.xo)).1 = E := ⟨_, rfl⟩
                  rw [hE] at HAP
                  have HE := Lib.hid hE
                  clear hE hown hfm hsub hfw
                  clear hfe
                  go_wp2_with fail
                  skip
                  refine HAP.out.mono ?_
                  rintro e w12 ⟨Az, cz, zs, rfl, hkz, hfz, hcz, hb12⟩
                  have HKZ := Lib.hid hkz
                  have HFZ := Lib.hid hfz
                  have HY12 := Lib.hid (HY11.out.trans (hb12.mono HY11.out.size))
                  clear hkz hfz hcz hb12 HAP
                  by_cases hE0 : E = 0
                  · subst hE0
                    have HNE : Hid (eqF zs b = false) := by
                      show _ = _
                      unfold eqF
                      refine decide_eq_false (fun e => ?_)
                      have h1 := diff_few HRA.out.2.2 HRB.out.2.2 ((xo_po os).trans HPO.out) (i := i) (by rw [List.length_map]; exact HIL.out) (by rw [← HFM.out]; exact HE.out)
                      rw [← HFM.out] at h1
                      exact h1 (HKZ.out.symm.trans e)
                    have hzl : zs.length ≤ 1000000 := by
                      have h1 := congrArg List.length HKZ.out
                      rw [List.length_map, List.length_map] at h1
                      have h2 := applyAll_len (fw.map OL.xo) HRA.out.2.2
                      rw [List.length_map] at h2
                      have := HL0.out
                      omega
                    have HSM := Lib.hid (refSame25_any Az zs.length cz A1 l1 c1 zs b w12.heap.size w12 rfl HL1.out hzl HFZ.out ((HFI.out w12 HY12.out).2.more HY12.out.size))
                    rw [HNE.out] at HSM
                    go_wp2_with fail
                    refine HSM.out.mono ?_
                    rintro e w13 ⟨rfl, n13, hw13⟩
                    have HY13 : Hid (Below W0.heap.size W0 w13) := by show Below _ _ _; rw [← hw13]; exact Below.drewN HY12.out _
                    clear hw13 HSM
                    go_wp2_with fail
                    refine (HLV.out _ HY13.out).mono ?_
                    rintro e wL ⟨rfl, hbL⟩
                    go_wp2
                    go_ret
                    exact ⟨rfl, hbL⟩
                  · have tE : (E == 0) = false := by simpa using hE0
                    go_wp2_with fail
                    refine (HLV.out _ HY12.out).mono ?_
                    rintro e wL ⟨rfl, hbL⟩
                    go_wp2
                    go_ret
                    exact ⟨rfl, hbL⟩
              ·
                go_wp2_with fail
                go_region_law (first
                  | (refine step_app ((w9.alloc (.cells #[] 49)).drew) olElem (by rfl) (.tmp 93) (.tmp 96) (by rfl) w9.heap.size (.slice (some ⟨w9.heap.size, 0, none⟩) 0 0) 0 [] (by rfl) (by rw [HV1.out]; exact HOV.out) V1.heap.size (some ⟨bd, od, none⟩) i cd (olCells (os.take i)) (by rfl) (by rw [ol_len, HTL.out]) (by rw [HV1.out]; exact (HCD.out V1 H3V.out).1) (olCells_one _) (by unfold maxLen; omega) (by omega) (by rw [HV1.out]; exact H9V.out.size) ?_; intro A5 c5 w10 hA; rw [Nat.zero_add, List.nil_append] at hA; (try rw [Nat.zero_add]); have HA1 : Hid (App V1 w9.heap.size 49 7 (.slice (some ⟨w9.heap.size, 0, none⟩) 0 0) i (olCells (os.take i)) w10 (.slice A5 i c5)) := (by rw [← HV1.out]; exact hA); have H3W := Lib.hid (hA.below (show Below w3.heap.size w3 _ from H39.out.trans ((Below.drewN ((Below.refl _ w9).alloc (Nat.le_refl _) _) 1).mono H39.out.size)) (Nat.le_trans H39.out.size (by rw [HV1.out]; exact H9V.out.size)) (fun q hq => Nat.le_trans H39.out.size ((HOV.out.lt q hq).1))); clear hA)
                  | (refine step_app w10 olElem (by rfl) (.tmp 97) (.tmp 101) (by rfl) w9.heap.size (.slice A5 i c5) i (olCells (os.take i)) (by rfl) HA1.out.own w10.heap.size (some ⟨bd, od + (i + 1) * 7, none⟩) (os.length - (i + 1)) (cd - (i + 1)) (olCells (os.drop (i + 1))) (by rfl) (by rw [ol_len, HDLN.out]) ((HCD.out w10 H3W.out).2) (olCells_one _) (by unfold maxLen; omega) (by omega) (Nat.le_trans H9V.out.size HA1.out.grow.size) ?_; intro A6 c6 w11 hA; have HA2 := Lib.hid hA; clear hA))
                all_goals
                  have H311 := Lib.hid (HA2.out.below H3W.out H3W.out.size (fun q hq => Nat.le_trans H39.out.size ((HA1.out.own.lt q hq).1)))
                  have HY11 := Lib.hid (HY3.out.trans (H311.out.mono HY3.out.size))
                  have hown := HA2.out.own
                  rw [← olCells_app] at hown
                  have hfe : i + (os.length - (i + 1)) = (os.take i ++ os.drop (i + 1)).length := by rw [List.length_append, HTL.out, HDLN.out]
                  have hfm : (os.take i ++ os.drop (i + 1)).map OL.xo = (os.map OL.xo).take i ++ (os.map OL.xo).drop (i + 1) := by rw [List.map_append, List.map_take, List.map_drop]
                  have hsub : ∀ x ∈ (os.take i ++ os.drop (i + 1)).map OL.xo, x ∈ os.map OL.xo := fun x hx => by
                    obtain ⟨y, hy, rfl⟩ := List.mem_map.1 hx
                    rcases List.mem_append.1 hy with hy | hy
                    · exact List.mem_map.2 ⟨y, List.mem_of_mem_take hy, rfl⟩
                    · exact List.mem_map.2 ⟨y, List.mem_of_mem_drop hy, rfl⟩
                  obtain ⟨fw, hfw⟩ : ∃ fw, os.take i ++ os.drop (i + 1) = fw := ⟨_, rfl⟩
                  rw [hfw] at hown hfe hfm hsub
                  rw [hfe] at hown
                  have HFM := Lib.hid hfm
                  have hfl : fw.length ≤ 500 := by omega
                  have hfl2 : fw.length ≤ 500 := by omega
                  have HAP := Lib.hid (applyAll_any A0 A6 l0 c0 fw.length c6 a (fw.map OL.xo) w11.heap.size w11 HL0.out (by rw [List.length_map]) (by omega) hfl HRA.out.2.2 ((HFI.out w11 HY11.out).1.more HY11.out.size) (by rw [xo_of_ol]; exact cells_of_ownF hown) (HOA.out w11 _ HY11.out HY11.out.size) (fun x hx => (xo_ok HOP.out HPO.out HS0.out.2 HS1.out.2 x (hsub x hx)).up H311.out H311.out.size) (xo_well fw) (Nat.le_refl _))
                  obtain ⟨E, hE⟩ : ∃ E, (applyAll a (fw.map OL.xo)).1 = E := ⟨_, rfl⟩
                  rw [hE] at HAP
                  have HE := Lib.hid hE
                  clear hE hown hfm hsub hfw
                  skip
                  go_wp2_with fail
                  (try rw [hfe])
                  refine HAP.out.mono ?_
                  rintro e w12 ⟨Az, cz, zs, rfl, hkz, hfz, hcz, hb12⟩
                  have HKZ := Lib.hid hkz
                  have HFZ := Lib.hid hfz
                  have HY12 := Lib.hid (HY11.out.trans (hb12.mono HY11.out.size))
                  clear hkz hfz hcz hb12 HAP
                  by_cases hE0 : E = 0
                  · subst hE0
                    have HNE : Hid (eqF zs b = false) := by
                      show _ = _
                      unfold eqF
                      refine decide_eq_false (fun e => ?_)
                      have h1 := diff_few HRA.out.2.2 HRB.out.2.2 ((xo_po os).trans HPO.out) (i := i) (by rw [List.length_map]; exact HIL.out) (by rw [← HFM.out]; exact HE.out)
                      rw [← HFM.out] at h1
                      exact h1 (HKZ.out.symm.trans e)
                    have hzl : zs.length ≤ 1000000 := by
                      have h1 := congrArg List.length HKZ.out
                      rw [List.length_map, List.length_map] at h1
                      have h2 := applyAll_len (fw.map OL.xo) HRA.out.2.2
                      rw [List.length_map] at h2
                      have := HL0.out
                      omega
                    have HSM := Lib.hid (refSame25_any Az zs.length cz A1 l1 c1 zs b w12.heap.size w12 rfl HL1.out hzl HFZ.out ((HFI.out w12 HY12.out).2.more HY12.out.size))
                    rw [HNE.out] at HSM
                    go_wp2_with fail
                    refine HSM.out.mono ?_
                    rintro e w13 ⟨rfl, n13, hw13⟩
                    have HY13 : Hid (Below W0.heap.size W0 w13) := by show Below _ _ _; rw [← hw13]; exact Below.drewN HY12.out _
                    clear hw13 HSM
                    go_wp2_with fail
                    refine (HLV.out _ HY13.out).mono ?_
                    rintro e wL ⟨rfl, hbL⟩
                    go_wp2
                    go_ret
                    exact ⟨rfl, hbL⟩
                  · have tE : (E == 0) = false := by simpa using hE0
                    go_wp2_with fail
                    refine (HLV.out _ HY12.out).mono ?_
                    rintro e wL ⟨rfl, hbL⟩
                    go_wp2
                    go_ret
                    exact ⟨rfl, hbL⟩
end Go.Proofs.YtfnkbpcimbldbaaDoor
/- Layer 38: the law PlanLeads, over what came in. -/
namespace Go.Proofs.YtfnkbpcimbldbaaDoor
open Go.RowKit

theorem cap_liesL {w : World} {e : Sh} {a : Option Addr} {len cap : Nat} (h : Lies w (.slice e) [.slice a len cap]) : len ≤ cap := by
  obtain ⟨A, l', c', X, he, _, hlc, _⟩ := h
  injection he with h1 h2
  injection h1 with h3 h4 h5
  omega
theorem planLeads_in (a0 : Option Addr) (len0 cap0 : Nat) (a1 : Option Addr) (len1 cap1 : Nat) (n2 : Int) (w : World) (w0 : Lies w (.slice fiSh) [.slice a0 len0 cap0]) (w1 : Lies w (.slice fiSh) [.slice a1 len1 cap1]) :
    Calls Tryd.prog 5 #[.slice a0 len0 cap0, .slice a1 len1 cap1, .int .i64 n2] w fun e w' => e = .returned (.bool true) ∧ Below w.heap.size w w' := by
  obtain ⟨fs, hl, _, hf, _⟩ := files_in w0
  obtain ⟨gs, hl2, _, hf2, _⟩ := files_in w1
  exact planLeads_any a0 a1 len0 cap0 len1 cap1 fs gs n2 w hl hl2 (cap_liesL w0) (cap_liesL w1) hf hf2
end Go.Proofs.YtfnkbpcimbldbaaDoor
