/- Layer 5: the law NamesPlay. -/
import Derived.Test.YtbfaefnlhcdnhaaNsL
import Derived.Deep.RegionHeld3
namespace Go.Proofs.Ytbfaefnlhcdnhaa
open Go.RowKit Go.Maps

/-- Behind a world S may be changed. -/
theorem wpAnyH_changeN {P : Program} {md : Region.Mode} {ops : Array Oper} {Q : Exit → Act → World → Prop} {S S2 : World → Prop} (hS : ∀ V, S2 V → S V) : ∀ (fuel : Nat) (listed : Array Bool) (a : Act) (w : World), wpAnyH P md ops Q S2 fuel listed a w → wpAnyH P md ops Q S fuel listed a w
  | 0, _, _, _, h => h
  | fuel + 1, _, _, _, h => ⟨h.1, fun i hi => wpOp_mono (fun a' w' h' => ⟨hS _ h'.1, wpAnyH_changeN hS fuel _ a' w' h'.2⟩) (h.2 i hi)⟩
theorem BothN.keep0 {w W : World} {d r : Nat} {F G : Nat → Prop} {s : Nst} (h : BothN w d r F G s) (hm : Mod noB w W) : BothN W d r F G s := ⟨h.dir.keep hm (fun _ _ h => h), h.ref.keep hm (fun _ _ h => h), h.apart, h.ok⟩
/-- Both are in memory from a block on, and old blocks are as they were. -/
structure GoesN (w : World) (B : Nat) (wr : World) (d r : Nat) (F G : Nat → Prop) (s : Nst) (k : Nat) : Prop where
  both : BothN wr d r F G s
  many : s.many ≤ k
  pre : s.pre = 0
  fb : ∀ j, F j → B ≤ j
  gb : ∀ j, G j → B ≤ j
  bel : Below B w wr
theorem GoesN.went {w : World} {B : Nat} {wr w' : World} {d r : Nat} {F G F' G' : Nat → Prop} {s s' : Nst} {k : Nat} (h : GoesN w B wr d r F G s k) (hB : B ≤ wr.heap.size) (hw : Went wr w' d r F G s' F' G') (hm : s'.many ≤ k + 1) (hp : s'.pre = 0) : GoesN w B w' d r F' G' s' (k + 1) := by
  refine ⟨hw.both, hm, hp, fun j hj => ?_, fun j hj => ?_, hw.mod.below h.bel hB (fun j hj => by rcases hj with hj | hj; exact h.fb j hj; exact h.gb j hj)⟩
  · rcases hw.nf j hj with h' | h'
    · exact h.fb j h'
    · omega
  · rcases hw.ng j hj with h' | h'
    · exact h.gb j h'
    · omega
theorem GoesN.below {w : World} {B : Nat} {wr w' : World} {d r : Nat} {F G : Nat → Prop} {s : Nst} {k : Nat} (h : GoesN w B wr d r F G s k) (hB : B ≤ wr.heap.size) (hb : Below wr.heap.size wr w') : GoesN w B w' d r F G s k :=
  ⟨h.both.keep0 (Mod.of_below hb), h.many, h.pre, h.fb, h.gb, h.bel.trans (hb.mono hB)⟩
/-- Two directories that were just made. -/
theorem goes_new (w : World) : GoesN w w.heap.size ((w.alloc (.cells #[.map none, .map none, .slice none 0 0] 28)).alloc (.cells #[.slice none 0 0, .slice none 0 0] 32)) w.heap.size (w.heap.size + 1) (oneB w.heap.size) (oneB (w.heap.size + 1)) s00 0 := by
  have h1 := heap_alloc_new w (.cells #[.map none, .map none, .slice none 0 0] 28)
  have h2 := heap_alloc_new (w.alloc (.cells #[.map none, .map none, .slice none 0 0] 28)) (.cells #[.slice none 0 0, .slice none 0 0] 32)
  rw [World.size_alloc] at h2
  refine ⟨⟨dir_new ((Below.heap_alloc (w.alloc (.cells #[.map none, .map none, .slice none 0 0] 28)) _ w.heap.size (by rw [World.size_alloc]; omega)).trans h1), ref_new h2, fun k hk hg => ?_, s00_ok⟩, Nat.le_refl _, rfl, fun j hj => ?_, fun j hj => ?_, ((Below.refl _ w).alloc (Nat.le_refl _) _).alloc (by rw [World.size_alloc]; omega) _⟩
  · have e1 : k = w.heap.size := hk
    have e2 : k = w.heap.size + 1 := hg
    omega
  · have e1 : j = w.heap.size := hj
    omega
  · have e1 : j = w.heap.size + 1 := hj
    omega
set_option linter.unusedSimpArgs false in
set_option maxRecDepth 100000 in
set_option maxHeartbeats 2000000 in
theorem play5_any (A : Option Addr) (l c : Nat) (xs : List LOp) (w : World) (hl : xs.length = l) (hb : Cells w w.heap.size A (opCells xs)) (hn : ∀ x ∈ xs, (Lit.int .i64 x.n).wf = true) :
    Calls Try.prog 3 #[.slice A l c] w fun e w' => e = .returned (.bool true) ∧ Below w.heap.size w w' := by
  have HL := Lib.hid hl
  have HC := Lib.hid hb
  have HN := Lib.hid hn
  have HG := Lib.hid (great5_any A l c xs w.heap.size w hl hb)
  have HLV : Hid (∀ W, Below w.heap.size w W → Calls Try.prog 8 #[] W fun e w' => e = .returned (.bool true) ∧ Below w.heap.size w w') := fun W hW => (lives5_any W).mono fun e w' h => ⟨h.1, hW.trans (h.2.mono hW.size)⟩
  clear hl hb hn
  have mixed : Try.prog.follows Departure.mixedOrders = true := by kernel_rfl
  go_enter Try.func3, Try.ntmps3
  go_wp2_with fail
  refine HG.out.mono ?_
  rintro e w1 ⟨o1, rfl, hw1, ho1⟩
  subst hw1
  cases o1 with
  | true =>
    go_wp2_with fail
    refine (HLV.out _ (Below.refl _ _)).mono ?_
    rintro e wL ⟨rfl, hbL⟩
    go_wp2
    go_ret
    exact ⟨rfl, hbL⟩
  | false =>
    have HO := Lib.hid (ho1 rfl)
    have hl60 : l ≤ 60 := by have := HO.out.1; have := HL.out; omega
    obtain ⟨B, hB⟩ : ∃ B, w.heap.size = B := ⟨_, rfl⟩
    have HGN := Lib.hid (goes_new w)
    have HBB := Lib.hid hB
    clear ho1
    go_wp2
    go_loopg [5] l (fun gk i wr => ∃ (k : Nat) (F G : Nat → Prop) (s : Nst), k + gk = l ∧ i = .int .i64 k ∧ GoesN w w.heap.size wr w.heap.size (w.heap.size + 1) F G s k)
    case atStart => exact ⟨0, _, _, s00, by omega, rfl, HGN.out⟩
    case round =>
      obtain ⟨k, F, G, s, hk, rfl, hgo⟩ := hrel
      have HGO := Lib.hid hgo
      rw [hB] at HGO
      clear hgo
      by_cases h : k < l
      · obtain ⟨x, hx⟩ : ∃ x, xs[k]? = some x := ⟨_, List.getElem?_eq_getElem (by have := HL.out; omega)⟩
        obtain ⟨b, o, rfl, hbB, hc⟩ := HC.out (by rw [op_len]; have := HL.out; omega)
        have HS0 : Hid (∀ W, Below B w W → W.cell? ⟨b, o + k * 4, none⟩ = some (.int .i64 x.kind) ∧ W.cell? ⟨b, o + k * 4 + 1, none⟩ = some (.string x.a) ∧ W.cell? ⟨b, o + k * 4 + 2, none⟩ = some (.string x.b) ∧ W.cell? ⟨b, o + k * 4 + 3, none⟩ = some (.int .i64 x.n)) := fun W hW => op_at (fun j u hj => (hW.cell (p := ⟨b, o + j, none⟩) (by rw [← hB]; exact hbB)).trans (hc j u hj)) hx
        have hxm := List.mem_of_getElem? hx
        have HXS := Lib.hid (HO.out.2 x hxm)
        have HXN := Lib.hid (HN.out x hxm)
        have hBs : B ≤ wr.heap.size := Nat.le_trans (by rw [← hB]; exact Nat.le_refl _) HGO.out.bel.size
        have HDO := Lib.hid (does_any B (B + 1) F G s x wr.drew (HGO.out.both.keep0 (Mod.refl noB wr).drew) (by have := HGO.out.many; omega) (by have := HXS.out.1; omega) (by have := HXS.out.2; omega) HXN.out (.inl HGO.out.pre))
        have S0 := HS0.out wr.drew HGO.out.bel.drew
        have hki : (k : Int) < (l : Int) := by omega
        have hw1 : IntKind.i64.wrap ((k : Int) + 1) = (k : Int) + 1 := IntWalk.i64_in _ (by omega)
        clear hc hx hxm
        go_wp2_with fail
        refine wp_region_noPanic (wp_region_held_drew (S := fun V => V.cell? ⟨b, o + k * 4, none⟩ = some (.int .i64 x.kind) ∧ V.cell? ⟨b, o + k * 4 + 1, none⟩ = some (.string x.a) ∧ V.cell? ⟨b, o + k * 4 + 2, none⟩ = some (.string x.b) ∧ V.cell? ⟨b, o + k * 4 + 3, none⟩ = some (.int .i64 x.n)) (by kernel_rfl) S0 (fun hHeld => ?_))
        (try simp only [Act.put, List.setIfInBounds_toArray, List.set_cons_zero, List.set_cons_succ])
        refine wpAnyH_take (i := 0) (v := ?_) (by simp only [List.getElem?_toArray, List.getElem?_cons_succ, List.getElem?_cons_zero]; rfl) (by kernel_rfl) (by kernel_rfl) (by kernel_rfl) (fun _ _ _ h => h) (Or.inl ⟨by rfl, ?_⟩) (by assumption) ?_
        rotate_left
        · intro w hSw; (try dsimp only at hSw); go_split_ands; go_simp; (try with_reducible rfl)
        (try simp only [Act.put, List.setIfInBounds_toArray, List.set_cons_zero, List.set_cons_succ])
        refine wpAnyH_take (i := 1) (v := ?_) (by simp only [List.getElem?_toArray, List.getElem?_cons_succ, List.getElem?_cons_zero]; rfl) (by kernel_rfl) (by kernel_rfl) (by kernel_rfl) (fun _ _ _ h => h) (Or.inl ⟨by rfl, ?_⟩) (by assumption) ?_
        rotate_left
        · intro w hSw; (try dsimp only at hSw); go_split_ands; go_simp; (try with_reducible rfl)
        (try simp only [Act.put, List.setIfInBounds_toArray, List.set_cons_zero, List.set_cons_succ])
        refine wpAnyH_take (i := 2) (v := ?_) (by simp only [List.getElem?_toArray, List.getElem?_cons_succ, List.getElem?_cons_zero]; rfl) (by kernel_rfl) (by kernel_rfl) (by kernel_rfl) (fun _ _ _ h => h) (Or.inl ⟨by rfl, ?_⟩) (by assumption) ?_
        rotate_left
        · intro w hSw; (try dsimp only at hSw); go_split_ands; go_simp; (try with_reducible rfl)
        (try simp only [Act.put, List.setIfInBounds_toArray, List.set_cons_zero, List.set_cons_succ])
        refine wpAnyH_take (i := 3) (v := ?_) (by simp only [List.getElem?_toArray, List.getElem?_cons_succ, List.getElem?_cons_zero]; rfl) (by kernel_rfl) (by kernel_rfl) (by kernel_rfl) (fun _ _ _ h => h) (Or.inl ⟨by rfl, ?_⟩) (by assumption) ?_
        rotate_left
        · intro w hSw; (try dsimp only at hSw); go_split_ands; go_simp; (try with_reducible rfl)
        (try simp only [Act.put, List.setIfInBounds_toArray, List.set_cons_zero, List.set_cons_succ])
        refine wpAnyH_ready (rs := [4]) (by kernel_rfl) (by simp) ?_
        refine AllReadyH.cons rfl (fun K hK => ?_) AllReadyH.nil
        go_simp
        refine HDO.out.mono ?_; rintro e w5 ⟨rfl, F', G', hwt⟩; have hmany := opN_many HGO.out.both.ok x.kind x.a x.b x.n; have hpre := opN_pre HGO.out.pre x.kind x.a x.b x.n; obtain ⟨s5, hs5⟩ : ∃ s5, opN s x.kind x.a x.b x.n = s5 := ⟨_, rfl⟩; rw [hs5] at hwt hmany hpre; have hg5 := (HGO.out.below hBs (Below.refl _ wr).drew).went hBs hwt (by have := HGO.out.many; omega) hpre; obtain ⟨An, cn, Ap, cp, pv, hrb⟩ := hwt.both.ref; obtain ⟨n5, hn5⟩ : ∃ n, s5.now.length = n := ⟨_, rfl⟩; obtain ⟨p5, hp5⟩ : ∃ n, s5.ws.length = n := ⟨_, rfl⟩; have HG5 := Lib.hid hg5; have HRB := Lib.hid hrb; have m0 := hrb.cells.1; have m1 := hrb.cells.2.1; rw [hn5] at m0; rw [hwt.both.ok.len, hpre, Nat.zero_add, hp5] at m1; have M5 : w5.cell? ⟨B + 1, 0, none⟩ = some (.slice An n5 cn) ∧ w5.cell? ⟨B + 1, 1, none⟩ = some (.slice Ap p5 cp) := ⟨m0, m1⟩; have S5 := HS0.out w5 hg5.bel; have HSA := Lib.hid (same5_any B F' s5.now s5.safe s5.ws An cn w5 hg5.both.dir hg5.both.ok.now_ris (by have := hg5.both.ok.now_len; have := hg5.many; have := s5.ws_le; omega) hg5.both.ok.now_sz (cells_of_ownD hrb.nw)); rw [hn5] at HSA; have HP5 := Lib.hid hp5; have hz5 := hrb.lt _ hrb.fr; clear hwt hs5 hg5 hrb hn5 hp5 m0 m1 hmany hpre
        go_wp2_with fail
        refine hK.out _ _ S5 (fun hHeld => ?_)
        clear hK K
        (try simp only [Act.put, List.setIfInBounds_toArray, List.set_cons_zero, List.set_cons_succ])
        refine wpAnyH_changeN (S2 := fun V => (V.cell? ⟨b, o + k * 4, none⟩ = some (.int .i64 x.kind) ∧ V.cell? ⟨b, o + k * 4 + 1, none⟩ = some (.string x.a) ∧ V.cell? ⟨b, o + k * 4 + 2, none⟩ = some (.string x.b) ∧ V.cell? ⟨b, o + k * 4 + 3, none⟩ = some (.int .i64 x.n)) ∧ V.cell? ⟨B + 1, 0, none⟩ = some (.slice An n5 cn) ∧ V.cell? ⟨B + 1, 1, none⟩ = some (.slice Ap p5 cp)) (fun V h => h.1) _ _ _ _ ?_
        have hHeld2 : (fun V : World => (V.cell? ⟨b, o + k * 4, none⟩ = some (.int .i64 x.kind) ∧ V.cell? ⟨b, o + k * 4 + 1, none⟩ = some (.string x.a) ∧ V.cell? ⟨b, o + k * 4 + 2, none⟩ = some (.string x.b) ∧ V.cell? ⟨b, o + k * 4 + 3, none⟩ = some (.int .i64 x.n)) ∧ V.cell? ⟨B + 1, 0, none⟩ = some (.slice An n5 cn) ∧ V.cell? ⟨B + 1, 1, none⟩ = some (.slice Ap p5 cp)) w5 := ⟨S5, M5⟩
        dsimp only at hHeld2
        refine wpAnyH_take (i := 5) (v := ?_) (by simp only [List.getElem?_toArray, List.getElem?_cons_succ, List.getElem?_cons_zero]; rfl) (by kernel_rfl) (by kernel_rfl) (by kernel_rfl) (fun _ _ _ h => h) (Or.inl ⟨by rfl, ?_⟩) (by assumption) ?_
        rotate_left
        · intro w hSw; (try dsimp only at hSw); go_split_ands; go_simp; (try with_reducible rfl)
        (try simp only [Act.put, List.setIfInBounds_toArray, List.set_cons_zero, List.set_cons_succ])
        refine wpAnyH_take (i := 6) (v := ?_) (by simp only [List.getElem?_toArray, List.getElem?_cons_succ, List.getElem?_cons_zero]; rfl) (by kernel_rfl) (by kernel_rfl) (by kernel_rfl) (fun _ _ _ h => h) (Or.inl ⟨by rfl, ?_⟩) (by assumption) ?_
        rotate_left
        · intro w hSw; (try dsimp only at hSw); go_split_ands; go_simp; (try with_reducible rfl)
        (try simp only [Act.put, List.setIfInBounds_toArray, List.set_cons_zero, List.set_cons_succ])
        refine wpAnyH_take (i := 7) (v := ?_) (by simp only [List.getElem?_toArray, List.getElem?_cons_succ, List.getElem?_cons_zero]; rfl) (by kernel_rfl) (by kernel_rfl) (by kernel_rfl) (fun _ _ _ h => h) (Or.inl ⟨by rfl, ?_⟩) (by assumption) ?_
        rotate_left
        · intro w hSw; (try dsimp only at hSw); go_split_ands; go_simp; (try with_reducible rfl)
        (try simp only [Act.put, List.setIfInBounds_toArray, List.set_cons_zero, List.set_cons_succ])
        refine wpAnyH_take (i := 8) (v := ?_) (by simp only [List.getElem?_toArray, List.getElem?_cons_succ, List.getElem?_cons_zero]; rfl) (by kernel_rfl) (by kernel_rfl) (by kernel_rfl) (fun _ _ _ h => h) (Or.inl ⟨by rfl, ?_⟩) (by assumption) ?_
        rotate_left
        · intro w hSw; (try dsimp only at hSw); go_split_ands; go_simp; (try with_reducible rfl)
        (try simp only [Act.put, List.setIfInBounds_toArray, List.set_cons_zero, List.set_cons_succ])
        refine wpAnyH_ready (rs := [9]) (by kernel_rfl) (by simp) ?_
        refine AllReadyH.cons rfl (fun K hK => ?_) AllReadyH.nil
        go_simp
        refine HSA.out.mono ?_; rintro e w6 ⟨rfl, hb6⟩; have S6 : (w6.cell? ⟨b, o + k * 4, none⟩ = some (.int .i64 x.kind) ∧ w6.cell? ⟨b, o + k * 4 + 1, none⟩ = some (.string x.a) ∧ w6.cell? ⟨b, o + k * 4 + 2, none⟩ = some (.string x.b) ∧ w6.cell? ⟨b, o + k * 4 + 3, none⟩ = some (.int .i64 x.n)) ∧ w6.cell? ⟨B + 1, 0, none⟩ = some (.slice An n5 cn) ∧ w6.cell? ⟨B + 1, 1, none⟩ = some (.slice Ap p5 cp) := ⟨HS0.out w6 (HG5.out.bel.trans (hb6.mono (by have := HG5.out.bel.size; omega))), ⟨(hb6.cell (p := ⟨B + 1, 0, none⟩) hz5).trans M5.1, (hb6.cell (p := ⟨B + 1, 1, none⟩) hz5).trans M5.2⟩⟩; have HG6 := Lib.hid (HG5.out.below (by have := HG5.out.bel.size; omega) hb6); have HWA := Lib.hid (waiting5_any B F' s5.now s5.safe s5.ws w6 HG6.out.both.dir); rw [HP5.out] at HWA; clear hb6
        go_wp2_with fail
        refine hK.out _ _ S6 (fun hHeld => ?_)
        clear hK K
        (try simp only [Act.put, List.setIfInBounds_toArray, List.set_cons_zero, List.set_cons_succ])
        refine wpAnyH_take (i := 10) (v := ?_) (by simp only [List.getElem?_toArray, List.getElem?_cons_succ, List.getElem?_cons_zero]; rfl) (by kernel_rfl) (by kernel_rfl) (by kernel_rfl) (fun _ _ _ h => h) (Or.inl ⟨by rfl, ?_⟩) (by assumption) ?_
        rotate_left
        · intro w hSw; (try dsimp only at hSw); go_split_ands; go_simp; (try with_reducible rfl)
        (try simp only [Act.put, List.setIfInBounds_toArray, List.set_cons_zero, List.set_cons_succ])
        refine wpAnyH_take (i := 11) (v := ?_) (by simp only [List.getElem?_toArray, List.getElem?_cons_succ, List.getElem?_cons_zero]; rfl) (by kernel_rfl) (by kernel_rfl) (by kernel_rfl) (fun _ _ _ h => h) (Or.inl ⟨by rfl, ?_⟩) (by assumption) ?_
        rotate_left
        · intro w hSw; (try dsimp only at hSw); go_split_ands; go_simp; (try with_reducible rfl)
        (try simp only [Act.put, List.setIfInBounds_toArray, List.set_cons_zero, List.set_cons_succ])
        refine wpAnyH_take (i := 12) (v := ?_) (by simp only [List.getElem?_toArray, List.getElem?_cons_succ, List.getElem?_cons_zero]; rfl) (by kernel_rfl) (by kernel_rfl) (by kernel_rfl) (fun _ _ _ h => h) (Or.inl ⟨by rfl, ?_⟩) (by assumption) ?_
        rotate_left
        · intro w hSw; (try dsimp only at hSw); go_split_ands; go_simp; (try with_reducible rfl)
        (try simp only [Act.put, List.setIfInBounds_toArray, List.set_cons_zero, List.set_cons_succ])
        refine wpAnyH_take (i := 14) (v := ?_) (by simp only [List.getElem?_toArray, List.getElem?_cons_succ, List.getElem?_cons_zero]; rfl) (by kernel_rfl) (by kernel_rfl) (by kernel_rfl) (fun _ _ _ h => h) (Or.inl ⟨by rfl, ?_⟩) (by assumption) ?_
        rotate_left
        · intro w hSw; (try dsimp only at hSw); go_split_ands; go_simp; (try with_reducible rfl)
        (try simp only [Act.put, List.setIfInBounds_toArray, List.set_cons_zero, List.set_cons_succ])
        refine wpAnyH_take (i := 15) (v := ?_) (by simp only [List.getElem?_toArray, List.getElem?_cons_succ, List.getElem?_cons_zero]; rfl) (by kernel_rfl) (by kernel_rfl) (by kernel_rfl) (fun _ _ _ h => h) (Or.inl ⟨by rfl, ?_⟩) (by assumption) ?_
        rotate_left
        · intro w hSw; (try dsimp only at hSw); go_split_ands; go_simp; (try with_reducible rfl)
        (try simp only [Act.put, List.setIfInBounds_toArray, List.set_cons_zero, List.set_cons_succ])
        refine wpAnyH_take (i := 16) (v := ?_) (by simp only [List.getElem?_toArray, List.getElem?_cons_succ, List.getElem?_cons_zero]; rfl) (by kernel_rfl) (by kernel_rfl) (by kernel_rfl) (fun _ _ _ h => h) (Or.inl ⟨by rfl, ?_⟩) (by assumption) ?_
        rotate_left
        · intro w hSw; (try dsimp only at hSw); go_split_ands; go_simp; (try with_reducible rfl)
        (try simp only [Act.put, List.setIfInBounds_toArray, List.set_cons_zero, List.set_cons_succ])
        refine wpAnyH_ready (rs := [13]) (by kernel_rfl) (by simp) ?_
        refine AllReadyH.cons rfl (fun K hK => ?_) AllReadyH.nil
        go_simp
        refine HWA.out.mono ?_; rintro e w7 ⟨rfl, hw7⟩; subst hw7
        go_wp2_with fail
        refine hK.out _ _ S6 (fun hHeld => ?_)
        clear hK K
        (try simp only [Act.put, List.setIfInBounds_toArray, List.set_cons_zero, List.set_cons_succ])
        refine wpAnyH_take (i := 17) (v := ?_) (by simp only [List.getElem?_toArray, List.getElem?_cons_succ, List.getElem?_cons_zero]; rfl) (by kernel_rfl) (by kernel_rfl) (by kernel_rfl) (fun _ _ _ h => h) (Or.inl ⟨by rfl, ?_⟩) (by assumption) ?_
        rotate_left
        · intro w hSw; (try dsimp only at hSw); go_split_ands; go_simp; (try with_reducible rfl)
        (try simp only [Act.put, List.setIfInBounds_toArray, List.set_cons_zero, List.set_cons_succ])
        refine wpAnyH_take (i := 18) (v := ?_) (by simp only [List.getElem?_toArray, List.getElem?_cons_succ, List.getElem?_cons_zero]; rfl) (by kernel_rfl) (by kernel_rfl) (by kernel_rfl) (fun _ _ _ h => h) (Or.inl ⟨by rfl, ?_⟩) (by assumption) ?_
        rotate_left
        · intro w hSw; (try dsimp only at hSw); go_split_ands; go_simp; (try with_reducible rfl)
        (try simp only [Act.put, List.setIfInBounds_toArray, List.set_cons_zero, List.set_cons_succ])
        refine wpAnyH_done (by kernel_rfl) (NoPanic.normal ?_) _
        go_wp2
        go_roundg (gk - 1)
        case measure => omega
        case rel => exact ⟨k + 1, F', G', s5, by omega, by go_num, by rw [HBB.out]; exact HG6.out⟩
      · obtain rfl : k = l := by omega
        go_wp2_with fail
        refine (HLV.out _ (by rw [hB]; exact HGO.out.bel)).mono ?_
        rintro e wL ⟨rfl, hbL⟩
        go_wp2
        go_ret
        exact ⟨rfl, hbL⟩
end Go.Proofs.Ytbfaefnlhcdnhaa
