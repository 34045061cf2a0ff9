/- Layer 9: what a part says; a part and a code are taken. -/
import Derived.Test.YtbpgaaecifnohaaMgRunsTakesSRnRep
import Derived.Test.YtbpgaaecifnohaaMgRunsTakes30
import Derived.Test.YtbpgaaecifnohaaMgRunsTakesSRnPut
import Derived.Test.YtbpgaaecifnohaaMgRunsTakes29
namespace Go.Proofs.Ytbpgaaecifnohaa
open Go.RowKit BitsP

theorem ib_nb {w : World} {g : Nat} {ns : List Nat} (h : IntBlock w g (ns.map fun n : Nat => (n : Int))) : NB w g ns := by
  have h2 : w.heap[g]? = some (.cells ((ns.map fun n : Nat => (n : Int)).map ic).toArray 3 (0, 0)) := h
  rw [nCs_ic] at h2
  exact h2
theorem rep_nat (m x : Nat) : (List.replicate m x).map (fun n : Nat => (n : Int)) = List.replicate m (x : Int) := by simp
theorem ic_cell (W : World) (x : Int) : (W.alloc (.cells #[.int .i64 x] 3)).cell? ⟨W.heap.size, 0, none⟩ = some (.int .i64 x) := cell_of_row _ _ 0 _ _ _ (heap_alloc_new W _)
set_option maxHeartbeats 1000000 in
theorem follow_no (c many : Nat) (A : Option Addr) (w : World) :
    Calls Try.prog 38 #[.slice A 0 c, .agg #[.int .i64 16, .int .i64 (many : Int)]] w fun e w' => e = .returned (.tuple #[.slice none 0 0, .int .i64 3]) ∧ Below w.heap.size w w' := by
  go_enter Try.func38, Try.ntmps38
  go_wp2
  go_ret2
  exact ⟨rfl, (Below.refl _ w).alloc (Nat.le_refl _) _⟩
theorem last_cell {ls : List Nat} {l : Nat} (hl : ls.length = l) (h : 0 < l) : ls[l - 1]? = some (saysP ls 16) := by
  rcases List.eq_nil_or_concat ls with rfl | ⟨l', a, rfl⟩
  · simp at hl; omega
  · rw [List.concat_eq_append] at hl ⊢
    rw [List.length_append, List.length_singleton] at hl
    rw [show l - 1 = l'.length by omega, List.getElem?_append_right (Nat.le_refl _), Nat.sub_self, saysP, if_pos rfl, List.getLastD_concat]
    rfl
set_option maxRecDepth 100000 in
set_option maxHeartbeats 1000000 in
theorem follow_any (A : Option Addr) (l c : Nat) (ls : List Nat) (num many B : Nat) (w : World) (hl : ls.length = l) (hm : l ≤ 1000) (hb : Cells w B A (nCs ls)) (hB : B ≤ w.heap.size) (h16 : num = 16 → 0 < l) (h1 : 1 ≤ many) (h4 : many < 400) :
    Calls Try.prog 38 #[.slice A l c, .agg #[.int .i64 (num : Int), .int .i64 (many : Int)]] w fun e w' => ∃ g, e = .returned (.tuple #[.slice (some ⟨g, 0, none⟩) many many, .int .i64 0]) ∧ w.heap.size ≤ g ∧ NB w' g (List.replicate many (saysP ls num)) ∧ Below w.heap.size w w' := by
  obtain ⟨x, hx⟩ : ∃ x, saysP ls num = x := ⟨_, rfl⟩
  rw [hx]
  have HREP : Hid (∀ o : Obj, Calls Try.prog 65 #[.slice (some ⟨w.heap.size + 1, 0, none⟩) 1 1, .int .i64 (many : Int)] ((w.alloc o).alloc (.cells #[.int .i64 (x : Int)] 3)) fun e w' => ∃ g, e = .returned (.slice (some ⟨g, 0, none⟩) many many) ∧ w.heap.size ≤ g ∧ NB w' g (List.replicate many x) ∧ Below w.heap.size w w') := fun o => by
    have hc := ic_cell (w.alloc o) (x : Int)
    rw [World.size_alloc] at hc
    refine (repeat_any (w.heap.size + 1) 0 1 many (x : Int) _ h1 h4 (by simp) hc).mono ?_
    rintro e w2 ⟨rfl, h2, h3⟩
    exact ⟨_, rfl, by simp; omega, ib_nb (by rw [rep_nat]; exact h2), (((Below.refl w.heap.size w).alloc (Nat.le_refl _) o).alloc (by simp) _).trans (h3.mono (by simp; omega))⟩
  by_cases e16 : num = 16
  · subst e16
    have h0 := h16 rfl
    have HLC := Lib.hid (last_cell hl h0)
    rw [hx] at HLC
    obtain ⟨b, o, rfl, hbB, hc⟩ := hb (by rw [nCs_len]; omega)
    have t0 : ((l : Int) == 0) = false := by simp; omega
    have hw1 : IntKind.i64.wrap ((l : Int) - 1) = ((l - 1 : Nat) : Int) := by rw [IntWalk.i64_in _ (by omega)]; omega
    have hlt : ((l - 1 : Nat) : Int) < (l : Int) := by omega
    have hge : (0 : Int) ≤ ((l - 1 : Nat) : Int) := by omega
    have c0 : (w.alloc (.cells #[.int .i64 16, .int .i64 (many : Int)] 54)).cell? ⟨b, o + (l - 1), none⟩ = some (.int .i64 (x : Int)) := (((Below.refl w.heap.size w).alloc (Nat.le_refl _) _).cell (p := ⟨b, o + (l - 1), none⟩) (by show b < _; omega)).trans (hc (l - 1) _ (nCs_at HLC.out))
    clear hx hl hb hc h16 h0
    go_enter Try.func38, Try.ntmps38
    go_wp2_with (go_at_call 65; refine (HREP.out _).mono ?_; rintro e w2 ⟨g, rfl, hg, hn2, hb2⟩; have HN2 := Lib.hid (And.intro hg (And.intro hn2 hb2)); clear hg hn2 hb2)
    go_ret2
    exact ⟨g, rfl, HN2.out⟩
  by_cases e17 : num = 17
  · subst e17
    obtain rfl : 0 = x := by rw [← hx]; rfl
    clear hx hl hb h16
    go_enter Try.func38, Try.ntmps38
    go_wp2_with (go_at_call 65; refine (HREP.out _).mono ?_; rintro e w2 ⟨g, rfl, hg, hn2, hb2⟩; have HN2 := Lib.hid (And.intro hg (And.intro hn2 hb2)); clear hg hn2 hb2)
    go_ret2
    exact ⟨g, rfl, HN2.out⟩
  by_cases e18 : num = 18
  · subst e18
    obtain rfl : 0 = x := by rw [← hx]; rfl
    clear hx hl hb h16
    go_enter Try.func38, Try.ntmps38
    go_wp2_with (go_at_call 65; refine (HREP.out _).mono ?_; rintro e w2 ⟨g, rfl, hg, hn2, hb2⟩; have HN2 := Lib.hid (And.intro hg (And.intro hn2 hb2)); clear hg hn2 hb2)
    go_ret2
    exact ⟨g, rfl, HN2.out⟩
  · obtain rfl : num = x := by rw [← hx, saysP, if_neg e16, if_neg (by omega)]
    have t1 : ((num : Int) == 16) = false := by simp; omega
    have t2 : ((num : Int) == 17) = false := by simp; omega
    have t3 : ((num : Int) == 18) = false := by simp; omega
    clear hx hl hb h16 e16 e17 e18
    go_enter Try.func38, Try.ntmps38
    go_wp2_with (go_at_call 65; refine (HREP.out _).mono ?_; rintro e w2 ⟨g, rfl, hg, hn2, hb2⟩; have HN2 := Lib.hid (And.intro hg (And.intro hn2 hb2)); clear hg hn2 hb2)
    go_ret2
    exact ⟨g, rfl, HN2.out⟩
theorem kindsT {F : List Int → List Bool → Int × Int × Nat} (hF : FunT F) {zs : List Int} {U : List Bool} {s e : Int} {on m : Nat} (hm : isMax zs (m : Int)) (h : TakeR zs m U s e on) : (e = 0 ∧ ∃ t : Nat, s = (t : Int) ∧ t < zs.length ∧ on ≤ U.length ∧ F zs U = (s, e, on)) ∨ (e ≠ 0 ∧ on = 0 ∧ F zs U = (s, e, on)) := by
  have hf := hF zs U s e on m hm h
  rcases h with ⟨t, v, k, hy, hl, _, rfl, rfl⟩ | ⟨rfl, rfl, _, he⟩
  · exact .inl ⟨rfl, t, rfl, (List.getElem?_eq_some_iff.1 hy.len).1, hl, hf⟩
  · refine .inr ⟨?_, rfl, hf⟩
    rw [he]
    split <;> decide
set_option maxRecDepth 100000 in
set_option maxHeartbeats 1000000 in
theorem rtpart_any (F : List Int → List Bool → Int × Int × Nat) (hF : FunT F) (g r base : Nat) (zs : List Int) (S : Nat → Prop) (bs : List UInt8) (p : Nat) (w : World) (hr : caR zs = true) (h : LC w g zs) (hrd : RdS w r base S bs p) (hbl : bs.length ≤ 1000000) :
    Calls Try.prog 37 #[.pointer (some ⟨r, 0, none⟩), .pointer (some ⟨g, 0, none⟩)] w
      fun e w' => ∃ p', e = .returned (.tuple #[.agg #[.int .i64 ((partF F zs ((unpack bs).drop p)).2.1 : Nat), .int .i64 ((partF F zs ((unpack bs).drop p)).2.2.1 : Nat)], .int .i64 (partF F zs ((unpack bs).drop p)).1]) ∧ RdS w' r base S bs p' ∧ ((partF F zs ((unpack bs).drop p)).1 = 0 → p' = p + (partF F zs ((unpack bs).drop p)).2.2.2) ∧ Mod (oneB r) w w' := by
  have HT := Lib.hid (take8_any g r base zs S bs p (w.alloc (.cells #[.int .i64 0, .int .i64 0] 54)) hr (h.below ((Below.refl w.heap.size w).alloc (Nat.le_refl _) _)) (hrd.keep (Mod.of_below ((Below.refl w.heap.size w).alloc (Nat.le_refl _) _)) (fun _ _ h => h)) hbl)
  have HM : Hid (Mod (oneB r) w (w.alloc (.cells #[.int .i64 0, .int .i64 0] 54))) := (Mod.of_below ((Below.refl w.heap.size w).alloc (Nat.le_refl _) _)).mono (fun _ h => h.elim)
  have HRL : Hid (r < w.heap.size) := by obtain ⟨A, c, hb, _⟩ := hrd; exact (Array.getElem?_eq_some_iff.1 hb).1
  have HTK : Hid (∀ (W : World) (p b : Nat), RdS W r base S bs p → b ≤ 100 → _) := fun W p b hW h1 => rtake_any r base S bs p (b : Int) W hW (by omega) (by omega) (by omega)
  have HSL : Hid (∀ k, S k → k < w.heap.size) := hrd.lt
  have hp8 : p ≤ 8 * bs.length := by obtain ⟨_, _, _, _, _, h, _⟩ := hrd; exact h
  clear h hrd
  obtain ⟨U, hU⟩ : ∃ U, (unpack bs).drop p = U := ⟨_, rfl⟩
  have HU := Lib.hid hU
  have hUl : U.length = 8 * bs.length - p := by rw [← hU, List.length_drop, unpack_length]
  have HUL := Lib.hid hUl
  rw [hU] at HT ⊢
  clear hU hUl
  have HST : Hid (∀ W : World, Mod (oneB r) w W → ∀ i v j u, Mod (oneB r) w ((W.setCell ⟨w.heap.size, i, none⟩ v).setCell ⟨w.heap.size, j, none⟩ u)) := fun W hW i v j u => (hW.set _ _ (.inr (Nat.le_refl _))).set _ _ (.inr (Nat.le_refl _))
  have HSR : Hid (∀ (W : World) (q : Nat), RdS W r base S bs q → ∀ i v j u, RdS ((W.setCell ⟨w.heap.size, i, none⟩ v).setCell ⟨w.heap.size, j, none⟩ u) r base S bs q) := fun W q hW i v j u => hW.keep (T := oneB w.heap.size) (((Mod.refl (oneB w.heap.size) W).set ⟨w.heap.size, i, none⟩ v (.inl rfl)).set ⟨w.heap.size, j, none⟩ u (.inl rfl)) (fun k hk h => by have h2 : k = w.heap.size := h; have := HSL.out k hk; omega)
  go_enter Try.func37, Try.ntmps37
  go_wp2_with fail
  refine HT.out.mono ?_
  rintro e w2 ⟨m, on, s, er, rfl, hmx, htk, hrd, hmod⟩
  have hbx : w2.heap[w.heap.size]? = some (.cells #[.int .i64 0, .int .i64 0] 54 (0, 0)) := hmod.keep (heap_alloc_new w _) (fun h => by have h2 : w.heap.size = r := h; have := HRL.out; omega)
  have HK := Lib.hid (kindsT hF hmx htk)
  have HM2 := Lib.hid (HM.out.then_ hmod)
  have HRD := Lib.hid hrd
  have HBX := Lib.hid hbx
  have b0 : w2.cell? ⟨w.heap.size, 0, none⟩ = some (.int .i64 0) := cell_of_row _ _ 0 _ _ _ hbx
  have b1 : w2.cell? ⟨w.heap.size, 1, none⟩ = some (.int .i64 0) := cell_of_row _ _ 1 _ _ _ hbx
  have f0 : w2.frozen? ⟨w.heap.size, 0, none⟩ = false := frozen_of_row _ _ 0 _ _ hbx
  have f1 : w2.frozen? ⟨w.heap.size, 1, none⟩ = false := frozen_of_row _ _ 1 _ _ hbx
  clear hmx htk hrd hmod hbx
  rcases HK.out with ⟨rfl, t, rfl, htl, hon, hf⟩ | ⟨hne, rfl, hf⟩
  · have HF := Lib.hid hf
    have hz := (caR_len hr).1
    have HSP := Lib.hid (fun W => span_any t W)
    obtain ⟨⟨sa, sb⟩, hab⟩ : ∃ ab, spanP t = ab := ⟨_, rfl⟩
    have hsp := spanP_le t
    have HAB := Lib.hid hab
    rw [hab] at HSP hsp
    dsimp only at HSP hsp
    have HTK2 := Lib.hid (HTK.out w2 (p + on) sb HRD.out (by omega))
    rw [cnt_nat (by omega)] at HTK2
    clear HK HTK hf htl hab
    by_cases hfit : p + on + sb ≤ 8 * bs.length
    · obtain ⟨y, hy⟩ : ∃ y, num ((U.drop on).take sb) = y := ⟨_, rfl⟩
      have hylt : y < 128 := by
        have h1 := numA_lt U on sb
        unfold numA at h1
        have h2 : 2 ^ sb ≤ 2 ^ 7 := Nat.pow_le_pow_right (by decide) hsp.2.2
        omega
      have HP : Hid (partF F zs U = (0, t, sa + y, on + sb)) := by
        show _ = _
        unfold partF
        rw [HF.out]
        dsimp only
        rw [if_neg (by simp), if_neg (by rw [Int.toNat_natCast, HAB.out, HUL.out]; dsimp only; omega), Int.toNat_natCast, HAB.out]
        dsimp only
        rw [hy]
      have hty : takes bs (p + on) sb = y := by rw [takes_yes hfit, ← hy, ← HU.out, List.drop_drop]
      rw [(fits_yes hfit).1, (fits_yes hfit).2, hty] at HTK2
      have HA := Lib.hid (show p + on + sb = p + (on + sb) by omega)
      clear hfit hy hty
      go_wp2_with (first
        | (go_at_call 28; refine (HSP.out _).mono ?_; rintro e w' ⟨rfl, rfl⟩)
        | (go_at_call 22; refine HTK2.out.mono ?_; rintro e w3 ⟨rfl, hrd3, hm3⟩; have hbx3 := hm3.keep HBX.out (fun h => by have h2 : w.heap.size = r := h; have := HRL.out; omega); have HR3 := Lib.hid hrd3; have HM3 := Lib.hid (HM2.out.then_ hm3); have HBX3 := Lib.hid hbx3; have b0' : w3.cell? ⟨w.heap.size, 0, none⟩ = some (.int .i64 0) := cell_of_row _ _ 0 _ _ _ hbx3; have b1' : w3.cell? ⟨w.heap.size, 1, none⟩ = some (.int .i64 0) := cell_of_row _ _ 1 _ _ _ hbx3; have f0' : w3.frozen? ⟨w.heap.size, 0, none⟩ = false := frozen_of_row _ _ 0 _ _ hbx3; have f1' : w3.frozen? ⟨w.heap.size, 1, none⟩ = false := frozen_of_row _ _ 1 _ _ hbx3; clear hrd3 hm3 hbx3))
      refine bodyPost_ret (v := .tuple #[.agg #[.int .i64 (t : Int), .int .i64 ((sa + y : Nat) : Int)], .int .i64 0]) ?_ rfl ⟨p + (on + sb), by rw [HP.out], ?_, fun _ => by rw [HP.out], ?_⟩
      · rw [results_cell_tmp rfl]
        go_simp
        try rfl
      · rw [← HA.out]
        exact HSR.out _ _ HR3.out _ _ _ _
      · exact HST.out _ HM3.out _ _ _ _
    · have HP : Hid (partF F zs U = (2, 0, 0, 0)) := by
        show _ = _
        unfold partF
        rw [HF.out]
        dsimp only
        rw [if_neg (by simp), if_pos (by rw [Int.toNat_natCast, HAB.out, HUL.out]; dsimp only; omega)]
      rw [(fits_no hfit).1, (fits_no hfit).2] at HTK2
      clear hfit
      go_wp2_with (first
        | (go_at_call 28; refine (HSP.out _).mono ?_; rintro e w' ⟨rfl, rfl⟩)
        | (go_at_call 22; refine HTK2.out.mono ?_; rintro e w3 ⟨rfl, hrd3, hm3⟩; have hbx3 := hm3.keep HBX.out (fun h => by have h2 : w.heap.size = r := h; have := HRL.out; omega); have HR3 := Lib.hid hrd3; have HM3 := Lib.hid (HM2.out.then_ hm3); have HBX3 := Lib.hid hbx3; have b0' : w3.cell? ⟨w.heap.size, 0, none⟩ = some (.int .i64 0) := cell_of_row _ _ 0 _ _ _ hbx3; have b1' : w3.cell? ⟨w.heap.size, 1, none⟩ = some (.int .i64 0) := cell_of_row _ _ 1 _ _ _ hbx3; have f0' : w3.frozen? ⟨w.heap.size, 0, none⟩ = false := frozen_of_row _ _ 0 _ _ hbx3; have f1' : w3.frozen? ⟨w.heap.size, 1, none⟩ = false := frozen_of_row _ _ 1 _ _ hbx3; clear hrd3 hm3 hbx3))
      refine bodyPost_ret (v := .tuple #[.agg #[.int .i64 0, .int .i64 0], .int .i64 2]) ?_ rfl ⟨_, by rw [HP.out]; rfl, HSR.out _ _ HR3.out _ _ _ _, fun h => (by rw [HP.out] at h; cases h), HST.out _ HM3.out _ _ _ _⟩
      rw [results_cell_tmp rfl]
      go_simp
      try rfl
  · have HP : Hid (partF F zs U = (er, 0, 0, 0)) := by
      show _ = _
      unfold partF
      rw [hf]
      exact if_pos hne
    have t1 : (er != 0) = true := by simpa using hne
    have HNE := Lib.hid hne
    clear HK hf hne
    · skip
      go_wp2
      refine bodyPost_ret (v := .tuple #[.agg #[.int .i64 0, .int .i64 0], .int .i64 er]) ?_ rfl ⟨_, by rw [HP.out]; rfl, HSR.out _ _ HRD.out _ _ _ _, fun h => absurd (by rw [HP.out] at h; exact h) HNE.out, HST.out _ HM2.out _ _ _ _⟩
      rw [results_cell_tmp rfl]
      go_simp
      try rfl
end Go.Proofs.Ytbpgaaecifnohaa
/- Layer 9: the lengths of the numbers' codes are taken. -/
namespace Go.Proofs.Ytbpgaaecifnohaa
open Go.RowKit BitsP

theorem set_pad (A : List Nat) (j y : Nat) : (A ++ List.replicate (j + 1) 0).set A.length y = (A ++ [y]) ++ List.replicate j 0 := by
  rw [List.set_append_right _ _ (Nat.le_refl _), Nat.sub_self, List.replicate_succ, List.set_cons_zero, List.append_assoc]
  rfl
theorem LCa.lower {w : World} {n n' g : Nat} {zs : List Int} (h : LCa w n g zs) (hn : n' ≤ n) : LCa w n' g zs := by
  obtain ⟨A1, A2, A3, c1, c2, c3, m, hcb, hmx, h1, h2, h3, hg, ha⟩ := h
  exact ⟨A1, A2, A3, c1, c2, c3, m, hcb, hmx, h1, h2, h3, Nat.le_trans hn hg, fun a h => Nat.le_trans hn (ha a h)⟩
theorem NB.cellsT {w : World} {g : Nat} {ns : List Nat} (h : NB w g ns) : Cells w w.heap.size (some ⟨g, 0, none⟩) (nCs ns) := fun _ =>
  ⟨g, 0, rfl, h.lt, fun j u hu => by
    rw [Nat.zero_add, cell_of_row w g j _ _ _ h, ← Array.getElem?_toList]
    exact hu⟩
theorem numA_takes {bs : List UInt8} {p q : Nat} (h : p + q ≤ 8 * bs.length) : takes bs p q = numA (unpack bs) p q := takes_yes h
theorem rd_low {w : World} {r base : Nat} {S : Nat → Prop} {bs : List UInt8} {p : Nat} (h : RdS w r base S bs p) : r < w.heap.size ∧ p ≤ 8 * bs.length ∧ S r := by
  obtain ⟨A, c, hb, _, rfl, hp, _⟩ := h
  exact ⟨(Array.getElem?_eq_some_iff.1 hb).1, hp, .inl rfl⟩
set_option maxRecDepth 100000 in
set_option maxHeartbeats 1000000 in
theorem rtcode_any (r base : Nat) (S : Nat → Prop) (bs : List UInt8) (p : Nat) (w : World) (hrd : RdS w r base S bs p) (hbl : bs.length ≤ 1000000) :
    Calls Try.prog 36 #[.pointer (some ⟨r, 0, none⟩)] w
      fun e w' => ∃ p' g, RdS w' r base S bs p' ∧ Mod (oneB r) w w' ∧
        ((¬ p + 76 ≤ 8 * bs.length ∧ e = .returned (.tuple #[.pointer none, .int .i64 2])) ∨
         (p + 76 ≤ 8 * bs.length ∧ caR ((lensA (unpack bs) p 19).map fun n : Nat => (n : Int)) = false ∧ e = .returned (.tuple #[.pointer none, .int .i64 13])) ∨
         (p + 76 ≤ 8 * bs.length ∧ caR ((lensA (unpack bs) p 19).map fun n : Nat => (n : Int)) = true ∧ e = .returned (.tuple #[.pointer (some ⟨g, 0, none⟩), .int .i64 0]) ∧ p' = p + 76 ∧ LCa w' w.heap.size g ((lensA (unpack bs) p 19).map fun n : Nat => (n : Int)))) := by
  obtain ⟨hrl, hp8, hSr⟩ := rd_low hrd
  have HTK : Hid (∀ (W : World) (p : Nat), RdS W r base S bs p → _) := fun W p hW => rtake_any r base S bs p 4 W hW (by omega) (by omega) (by omega)
  have mk0 : ∀ W, (Instr.makeSlice 22 (.int .i64 19) (.int .i64 19)).run Try.prog W = .ok (.slice (some ⟨W.heap.size, 0, none⟩) 19 19) (W.alloc (.cells (madeCells #[.int .i64 0] 19) 3)) := fun W => make_ints 19 (by omega) W
  obtain ⟨W1, hW1⟩ : ∃ W1, w.alloc (.cells (madeCells #[.int .i64 0] 19) 3) = W1 := ⟨_, rfl⟩
  have HB1 : Hid (Below w.heap.size w W1) := by show Below _ _ _; rw [← hW1]; exact (Below.refl _ w).alloc (Nat.le_refl _) _
  have HN1 : Hid (NB W1 w.heap.size (lensA (unpack bs) p 0 ++ List.replicate 19 0)) := by show NB _ _ _; rw [← hW1]; exact wei_made w 19
  have HM1 : Hid (Mod (oneB r) w W1) := (Mod.of_below HB1.out).mono (fun _ h => h.elim)
  have HR1 : Hid (RdS W1 r base S bs p) := hrd.keep (Mod.of_below HB1.out) (fun _ _ h => h)
  have HSL : Hid (∀ k, S k → k < w.heap.size) := hrd.lt
  rw [show cnt 4 = 4 from rfl] at HTK
  go_enter Try.func36, Try.ntmps36
  go_wp2
  clear hW1 mk0 hrd HB1
  go_loopg [11] 19 (fun gk i wr => ∃ k : Nat, k + gk = 19 ∧ i = .int .i64 (k : Int) ∧ NB wr w.heap.size (lensA (unpack bs) p k ++ List.replicate gk 0) ∧ RdS wr r base S bs (p + 4 * k) ∧ Mod (oneB r) w wr)
  case atStart => exact ⟨0, by omega, rfl, HN1.out, HR1.out, HM1.out⟩
  case round =>
    obtain ⟨k, hk, rfl, hnb, hrd, hmod⟩ := hrel
    have HNB := Lib.hid hnb
    have HRD := Lib.hid hrd
    have HMD := Lib.hid hmod
    clear hnb hrd hmod HN1 HR1 HM1
    by_cases hk19 : k < 19
    · have HT2 := Lib.hid (HTK.out wr _ HRD.out)
      by_cases hfit : p + 4 * k + 4 ≤ 8 * bs.length
      · rw [(fits_yes hfit).1, (fits_yes hfit).2, numA_takes hfit] at HT2
        have hy := numA_lt (unpack bs) (p + 4 * k) 4
        have HUP : Hid (lensA (unpack bs) p (k + 1) ++ List.replicate (gk - 1) 0 = (lensA (unpack bs) p k ++ List.replicate gk 0).set k (numA (unpack bs) (p + 4 * k) 4)) := by
          show _ = _
          have h := set_pad (lensA (unpack bs) p k) (gk - 1) (numA (unpack bs) (p + 4 * k) 4)
          rw [lensA_len, show gk - 1 + 1 = gk by omega] at h
          rw [h, lensA_up]
        obtain ⟨y, hyy⟩ : ∃ y, numA (unpack bs) (p + 4 * k) 4 = y := ⟨_, rfl⟩
        rw [hyy] at HT2 hy HUP
        have hy16 : y < 16 := hy
        have HE := Lib.hid (show p + 4 * k + 4 = p + 4 * (k + 1) by omega)
        clear hyy hy hfit
        go_wp2_with (go_at_call 22; refine HT2.out.mono ?_; rintro e w2 ⟨rfl, hrd2, hm2⟩; have HN2 := Lib.hid (show NB w2 w.heap.size _ from hm2.keep HNB.out (fun h => by have h2 : w.heap.size = r := h; omega)); have f0 : w2.frozen? ⟨w.heap.size, k, none⟩ = false := HN2.out.free; have q0 : w2.cell? ⟨w.heap.size, k, none⟩ = some (.int .i64 ((0 : Nat) : Int)) := HN2.out.cell (by rw [List.getElem?_append_right (by rw [lensA_len]; omega), lensA_len, Nat.sub_self, List.getElem?_replicate, if_pos (by omega)]); have HR2 := Lib.hid hrd2; have HM2 := Lib.hid (HMD.out.then_ hm2); clear hrd2 hm2)
        go_roundg (gk - 1)
        case measure => omega
        case rel =>
          refine ⟨k + 1, by omega, by go_num, ?_, ?_, HM2.out.set _ _ (.inr (Nat.le_refl _))⟩
          · rw [HUP.out]
            exact HN2.out.set k y
          · rw [← HE.out]
            exact HR2.out.keep (T := oneB w.heap.size) ((Mod.refl (oneB w.heap.size) w2).set ⟨w.heap.size, k, none⟩ _ (.inl rfl)) (fun j hj h => by have h2 : j = w.heap.size := h; have := HSL.out j hj; omega)
      · rw [(fits_no hfit).1, (fits_no hfit).2] at HT2
        go_wp2_with (go_at_call 22; refine HT2.out.mono ?_; rintro e w2 ⟨rfl, hrd2, hm2⟩; have HR2 := Lib.hid hrd2; have HM2 := Lib.hid (HMD.out.then_ hm2); clear hrd2 hm2)
        go_ret2
        exact ⟨_, 0, HR2.out, HM2.out, .inl ⟨by omega, rfl⟩⟩
    · obtain rfl : k = 19 := by omega
      obtain rfl : gk = 0 := by omega
      have HN := Lib.hid (show NB wr w.heap.size (lensA (unpack bs) p 19) by have h := HNB.out; rw [List.replicate_zero, List.append_nil] at h; exact h)
      have HC : Hid (Cells wr wr.heap.size (some ⟨w.heap.size, 0, none⟩) (((lensA (unpack bs) p 19).map fun n : Nat => (n : Int)).map ic)) := by
        show Cells _ _ _ _
        rw [nCs_ic]
        exact NB.cellsT HN.out
      have hp76 := (rd_low HRD.out).2.1
      cases hr : caR ((lensA (unpack bs) p 19).map fun n : Nat => (n : Int)) with
      | false =>
        have HNO := Lib.hid (new_no (some ⟨w.heap.size, 0, none⟩) 19 19 _ wr.heap.size wr (by rw [List.length_map, lensA_len]) (by omega) HC.out hr)
        have HRR := Lib.hid hr
        clear hr
        go_wp2_with (go_at_call 26; refine HNO.out.mono ?_; rintro e w2 ⟨rfl, rfl⟩)
        go_ret2
        exact ⟨_, 0, HRD.out, HMD.out, .inr (.inl ⟨by omega, HRR.out, rfl⟩)⟩
      | true =>
        have HNO := Lib.hid (new_low (some ⟨w.heap.size, 0, none⟩) 19 19 _ wr.heap.size wr (by rw [List.length_map, lensA_len]) (by omega) HC.out (Nat.le_refl _) hr)
        have HRR := Lib.hid hr
        clear hr
        go_wp2_with (go_at_call 26; refine HNO.out.mono ?_; rintro e w2 ⟨g, rfl, hlc, hb2⟩; have HL2 := Lib.hid hlc; have HB2 := Lib.hid hb2; clear hlc hb2)
        go_ret2
        exact ⟨_, g, HRD.out.keep (Mod.of_below HB2.out) (fun _ _ h => h), HMD.out.then_ ((Mod.of_below HB2.out).mono (fun _ h => h.elim)), .inr (.inr ⟨by omega, HRR.out, rfl, by omega, HL2.out.lower HMD.out.size⟩)⟩
end Go.Proofs.Ytbpgaaecifnohaa
