/- Layer 9: what a part says; a part and a code are taken. -/
import Derived.Test.YtkikgidmioofaaaGreatMgBSRnRep
import Derived.Test.YtkikgidmioofaaaGreatMgB28
import Derived.Test.YtkikgidmioofaaaGreatMgB49
import Derived.Test.YtkikgidmioofaaaGreatMgBSRnRJ
import Derived.Test.YtkikgidmioofaaaGreatMgBSRnRx
import Derived.Test.YtkikgidmioofaaaGreatMgB47
namespace Go.Proofs.YtkikgidmioofaaaGreat
open Go.RowKit BitsP

theorem ib_nb {w : World} {g : Nat} {ns : List Nat} (h : IntBlock w g (ns.map fun n : Nat => (n : Int))) : NB w g ns := by
  have h2 : w.heap[g]? = some (.cells ((ns.map fun n : Nat => (n : Int)).map ic).toArray 3 (0, 0)) := h
  rw [nCs_ic] at h2
  exact h2
theorem rep_nat (m x : Nat) : (List.replicate m x).map (fun n : Nat => (n : Int)) = List.replicate m (x : Int) := by simp
theorem ic_cell (W : World) (x : Int) : (W.alloc (.cells #[.int .i64 x] 3)).cell? ⟨W.heap.size, 0, none⟩ = some (.int .i64 x) := cell_of_row _ _ 0 _ _ _ (heap_alloc_new W _)
set_option maxHeartbeats 1000000 in
theorem follow_no (c many : Nat) (A : Option Addr) (w : World) :
    Calls Tryz.prog 144 #[.slice A 0 c, .agg #[.int .i64 16, .int .i64 (many : Int)]] w fun e w' => e = .returned (.tuple #[.slice none 0 0, .int .i64 3]) ∧ Below w.heap.size w w' := by
  go_enter Tryz.func144, Tryz.ntmps144
  go_wp2
  go_ret2
  exact ⟨rfl, (Below.refl _ w).alloc (Nat.le_refl _) _⟩
theorem last_cell {ls : List Nat} {l : Nat} (hl : ls.length = l) (h : 0 < l) : ls[l - 1]? = some (saysP ls 16) := by
  rcases List.eq_nil_or_concat ls with rfl | ⟨l', a, rfl⟩
  · simp at hl; omega
  · rw [List.concat_eq_append] at hl ⊢
    rw [List.length_append, List.length_singleton] at hl
    rw [show l - 1 = l'.length by omega, List.getElem?_append_right (Nat.le_refl _), Nat.sub_self, saysP, if_pos rfl, List.getLastD_concat]
    rfl
set_option maxRecDepth 100000 in
set_option maxHeartbeats 1000000 in
theorem follow_any (A : Option Addr) (l c : Nat) (ls : List Nat) (num many B : Nat) (w : World) (hl : ls.length = l) (hm : l ≤ 1000) (hb : Cells w B A (nCs ls)) (hB : B ≤ w.heap.size) (h16 : num = 16 → 0 < l) (h1 : 1 ≤ many) (h4 : many < 400) :
    Calls Tryz.prog 144 #[.slice A l c, .agg #[.int .i64 (num : Int), .int .i64 (many : Int)]] w fun e w' => ∃ g, e = .returned (.tuple #[.slice (some ⟨g, 0, none⟩) many many, .int .i64 0]) ∧ w.heap.size ≤ g ∧ NB w' g (List.replicate many (saysP ls num)) ∧ Below w.heap.size w w' := by
  obtain ⟨x, hx⟩ : ∃ x, saysP ls num = x := ⟨_, rfl⟩
  rw [hx]
  have HREP : Hid (∀ o : Obj, Calls Tryz.prog 157 #[.slice (some ⟨w.heap.size + 1, 0, none⟩) 1 1, .int .i64 (many : Int)] ((w.alloc o).alloc (.cells #[.int .i64 (x : Int)] 3)) fun e w' => ∃ g, e = .returned (.slice (some ⟨g, 0, none⟩) many many) ∧ w.heap.size ≤ g ∧ NB w' g (List.replicate many x) ∧ Below w.heap.size w w') := fun o => by
    have hc := ic_cell (w.alloc o) (x : Int)
    rw [World.size_alloc] at hc
    refine (repeat_any (w.heap.size + 1) 0 1 many (x : Int) _ h1 h4 (by simp) hc).mono ?_
    rintro e w2 ⟨rfl, h2, h3⟩
    exact ⟨_, rfl, by simp; omega, ib_nb (by rw [rep_nat]; exact h2), (((Below.refl w.heap.size w).alloc (Nat.le_refl _) o).alloc (by simp) _).trans (h3.mono (by simp; omega))⟩
  by_cases e16 : num = 16
  · subst e16
    have h0 := h16 rfl
    have HLC := Lib.hid (last_cell hl h0)
    rw [hx] at HLC
    obtain ⟨b, o, rfl, hbB, hc⟩ := hb (by rw [nCs_len]; omega)
    have t0 : ((l : Int) == 0) = false := by simp; omega
    have hw1 : IntKind.i64.wrap ((l : Int) - 1) = ((l - 1 : Nat) : Int) := by rw [IntWalk.i64_in _ (by omega)]; omega
    have hlt : ((l - 1 : Nat) : Int) < (l : Int) := by omega
    have hge : (0 : Int) ≤ ((l - 1 : Nat) : Int) := by omega
    have c0 : (w.alloc (.cells #[.int .i64 16, .int .i64 (many : Int)] 179)).cell? ⟨b, o + (l - 1), none⟩ = some (.int .i64 (x : Int)) := (((Below.refl w.heap.size w).alloc (Nat.le_refl _) _).cell (p := ⟨b, o + (l - 1), none⟩) (by show b < _; omega)).trans (hc (l - 1) _ (nCs_at HLC.out))
    clear hx hl hb hc h16 h0
    go_enter Tryz.func144, Tryz.ntmps144
    go_wp2_with (go_at_call 157; refine (HREP.out _).mono ?_; rintro e w2 ⟨g, rfl, hg, hn2, hb2⟩; have HN2 := Lib.hid (And.intro hg (And.intro hn2 hb2)); clear hg hn2 hb2)
    go_ret2
    exact ⟨g, rfl, HN2.out⟩
  by_cases e17 : num = 17
  · subst e17
    obtain rfl : 0 = x := by rw [← hx]; rfl
    clear hx hl hb h16
    go_enter Tryz.func144, Tryz.ntmps144
    go_wp2_with (go_at_call 157; refine (HREP.out _).mono ?_; rintro e w2 ⟨g, rfl, hg, hn2, hb2⟩; have HN2 := Lib.hid (And.intro hg (And.intro hn2 hb2)); clear hg hn2 hb2)
    go_ret2
    exact ⟨g, rfl, HN2.out⟩
  by_cases e18 : num = 18
  · subst e18
    obtain rfl : 0 = x := by rw [← hx]; rfl
    clear hx hl hb h16
    go_enter Tryz.func144, Tryz.ntmps144
    go_wp2_with (go_at_call 157; refine (HREP.out _).mono ?_; rintro e w2 ⟨g, rfl, hg, hn2, hb2⟩; have HN2 := Lib.hid (And.intro hg (And.intro hn2 hb2)); clear hg hn2 hb2)
    go_ret2
    exact ⟨g, rfl, HN2.out⟩
  · obtain rfl : num = x := by rw [← hx, saysP, if_neg e16, if_neg (by omega)]
    have t1 : ((num : Int) == 16) = false := by simp; omega
    have t2 : ((num : Int) == 17) = false := by simp; omega
    have t3 : ((num : Int) == 18) = false := by simp; omega
    clear hx hl hb h16 e16 e17 e18
    go_enter Tryz.func144, Tryz.ntmps144
    go_wp2_with (go_at_call 157; refine (HREP.out _).mono ?_; rintro e w2 ⟨g, rfl, hg, hn2, hb2⟩; have HN2 := Lib.hid (And.intro hg (And.intro hn2 hb2)); clear hg hn2 hb2)
    go_ret2
    exact ⟨g, rfl, HN2.out⟩
theorem kindsT {F : List Int → List Bool → Int × Int × Nat} (hF : FunT F) {zs : List Int} {U : List Bool} {s e : Int} {on m : Nat} (hm : isMax zs (m : Int)) (h : TakeR zs m U s e on) : (e = 0 ∧ ∃ t : Nat, s = (t : Int) ∧ t < zs.length ∧ on ≤ U.length ∧ F zs U = (s, e, on)) ∨ (e ≠ 0 ∧ on = 0 ∧ F zs U = (s, e, on)) := by
  have hf := hF zs U s e on m hm h
  rcases h with ⟨t, v, k, hy, hl, _, rfl, rfl⟩ | ⟨rfl, rfl, _, he⟩
  · exact .inl ⟨rfl, t, rfl, (List.getElem?_eq_some_iff.1 hy.len).1, hl, hf⟩
  · refine .inr ⟨?_, rfl, hf⟩
    rw [he]
    split <;> decide
set_option maxRecDepth 100000 in
set_option maxHeartbeats 1000000 in
theorem rtpart_any (F : List Int → List Bool → Int × Int × Nat) (hF : FunT F) (g r base : Nat) (zs : List Int) (S : Nat → Prop) (bs : List UInt8) (p : Nat) (w : World) (hr : caR zs = true) (h : LC w g zs) (hrd : RdS w r base S bs p) (hbl : bs.length ≤ 1000000) :
    Calls Tryz.prog 143 #[.pointer (some ⟨r, 0, none⟩), .pointer (some ⟨g, 0, none⟩)] w
      fun e w' => ∃ p', e = .returned (.tuple #[.agg #[.int .i64 ((partF F zs ((unpack bs).drop p)).2.1 : Nat), .int .i64 ((partF F zs ((unpack bs).drop p)).2.2.1 : Nat)], .int .i64 (partF F zs ((unpack bs).drop p)).1]) ∧ RdS w' r base S bs p' ∧ ((partF F zs ((unpack bs).drop p)).1 = 0 → p' = p + (partF F zs ((unpack bs).drop p)).2.2.2) ∧ Mod (oneB r) w w' := by
  have HT := Lib.hid (take8_any g r base zs S bs p (w.alloc (.cells #[.int .i64 0, .int .i64 0] 179)) hr (h.below ((Below.refl w.heap.size w).alloc (Nat.le_refl _) _)) (hrd.keep (Mod.of_below ((Below.refl w.heap.size w).alloc (Nat.le_refl _) _)) (fun _ _ h => h)) hbl)
  have HM : Hid (Mod (oneB r) w (w.alloc (.cells #[.int .i64 0, .int .i64 0] 179))) := (Mod.of_below ((Below.refl w.heap.size w).alloc (Nat.le_refl _) _)).mono (fun _ h => h.elim)
  have HRL : Hid (r < w.heap.size) := by obtain ⟨A, c, hb, _⟩ := hrd; exact (Array.getElem?_eq_some_iff.1 hb).1
  have HTK : Hid (∀ (W : World) (p b : Nat), RdS W r base S bs p → b ≤ 100 → _) := fun W p b hW h1 => rtake_any r base S bs p (b : Int) W hW (by omega) (by omega) (by omega)
  have HSL : Hid (∀ k, S k → k < w.heap.size) := hrd.lt
  have hp8 : p ≤ 8 * bs.length := by obtain ⟨_, _, _, _, _, h, _⟩ := hrd; exact h
  clear h hrd
  obtain ⟨U, hU⟩ : ∃ U, (unpack bs).drop p = U := ⟨_, rfl⟩
  have HU := Lib.hid hU
  have hUl : U.length = 8 * bs.length - p := by rw [← hU, List.length_drop, unpack_length]
  have HUL := Lib.hid hUl
  rw [hU] at HT ⊢
  clear hU hUl
  have HST : Hid (∀ W : World, Mod (oneB r) w W → ∀ i v j u, Mod (oneB r) w ((W.setCell ⟨w.heap.size, i, none⟩ v).setCell ⟨w.heap.size, j, none⟩ u)) := fun W hW i v j u => (hW.set _ _ (.inr (Nat.le_refl _))).set _ _ (.inr (Nat.le_refl _))
  have HSR : Hid (∀ (W : World) (q : Nat), RdS W r base S bs q → ∀ i v j u, RdS ((W.setCell ⟨w.heap.size, i, none⟩ v).setCell ⟨w.heap.size, j, none⟩ u) r base S bs q) := fun W q hW i v j u => hW.keep (T := oneB w.heap.size) (((Mod.refl (oneB w.heap.size) W).set ⟨w.heap.size, i, none⟩ v (.inl rfl)).set ⟨w.heap.size, j, none⟩ u (.inl rfl)) (fun k hk h => by have h2 : k = w.heap.size := h; have := HSL.out k hk; omega)
  go_enter Tryz.func143, Tryz.ntmps143
  go_wp2_with fail
  refine HT.out.mono ?_
  rintro e w2 ⟨m, on, s, er, rfl, hmx, htk, hrd, hmod⟩
  have hbx : w2.heap[w.heap.size]? = some (.cells #[.int .i64 0, .int .i64 0] 179 (0, 0)) := hmod.keep (heap_alloc_new w _) (fun h => by have h2 : w.heap.size = r := h; have := HRL.out; omega)
  have HK := Lib.hid (kindsT hF hmx htk)
  have HM2 := Lib.hid (HM.out.then_ hmod)
  have HRD := Lib.hid hrd
  have HBX := Lib.hid hbx
  have b0 : w2.cell? ⟨w.heap.size, 0, none⟩ = some (.int .i64 0) := cell_of_row _ _ 0 _ _ _ hbx
  have b1 : w2.cell? ⟨w.heap.size, 1, none⟩ = some (.int .i64 0) := cell_of_row _ _ 1 _ _ _ hbx
  have f0 : w2.frozen? ⟨w.heap.size, 0, none⟩ = false := frozen_of_row _ _ 0 _ _ hbx
  have f1 : w2.frozen? ⟨w.heap.size, 1, none⟩ = false := frozen_of_row _ _ 1 _ _ hbx
  clear hmx htk hrd hmod hbx
  rcases HK.out with ⟨rfl, t, rfl, htl, hon, hf⟩ | ⟨hne, rfl, hf⟩
  · have HF := Lib.hid hf
    have hz := (caR_len hr).1
    have HSP := Lib.hid (fun W => span_any t W)
    obtain ⟨⟨sa, sb⟩, hab⟩ : ∃ ab, spanP t = ab := ⟨_, rfl⟩
    have hsp := spanP_le t
    have HAB := Lib.hid hab
    rw [hab] at HSP hsp
    dsimp only at HSP hsp
    have HTK2 := Lib.hid (HTK.out w2 (p + on) sb HRD.out (by omega))
    rw [cnt_nat (by omega)] at HTK2
    clear HK HTK hf htl hab
    by_cases hfit : p + on + sb ≤ 8 * bs.length
    · obtain ⟨y, hy⟩ : ∃ y, num ((U.drop on).take sb) = y := ⟨_, rfl⟩
      have hylt : y < 128 := by
        have h1 := numA_lt U on sb
        unfold numA at h1
        have h2 : 2 ^ sb ≤ 2 ^ 7 := Nat.pow_le_pow_right (by decide) hsp.2.2
        omega
      have HP : Hid (partF F zs U = (0, t, sa + y, on + sb)) := by
        show _ = _
        unfold partF
        rw [HF.out]
        dsimp only
        rw [if_neg (by simp), if_neg (by rw [Int.toNat_natCast, HAB.out, HUL.out]; dsimp only; omega), Int.toNat_natCast, HAB.out]
        dsimp only
        rw [hy]
      have hty : takes bs (p + on) sb = y := by rw [takes_yes hfit, ← hy, ← HU.out, List.drop_drop]
      rw [(fits_yes hfit).1, (fits_yes hfit).2, hty] at HTK2
      have HA := Lib.hid (show p + on + sb = p + (on + sb) by omega)
      clear hfit hy hty
      go_wp2_with (first
        | (go_at_call 108; refine (HSP.out _).mono ?_; rintro e w' ⟨rfl, rfl⟩)
        | (go_at_call 141; refine HTK2.out.mono ?_; rintro e w3 ⟨rfl, hrd3, hm3⟩; have hbx3 := hm3.keep HBX.out (fun h => by have h2 : w.heap.size = r := h; have := HRL.out; omega); have HR3 := Lib.hid hrd3; have HM3 := Lib.hid (HM2.out.then_ hm3); have HBX3 := Lib.hid hbx3; have b0' : w3.cell? ⟨w.heap.size, 0, none⟩ = some (.int .i64 0) := cell_of_row _ _ 0 _ _ _ hbx3; have b1' : w3.cell? ⟨w.heap.size, 1, none⟩ = some (.int .i64 0) := cell_of_row _ _ 1 _ _ _ hbx3; have f0' : w3.frozen? ⟨w.heap.size, 0, none⟩ = false := frozen_of_row _ _ 0 _ _ hbx3; have f1' : w3.frozen? ⟨w.heap.size, 1, none⟩ = false := frozen_of_row _ _ 1 _ _ hbx3; clear hrd3 hm3 hbx3))
      refine bodyPost_ret (v := .tuple #[.agg #[.int .i64 (t : Int), .int .i64 ((sa + y : Nat) : Int)], .int .i64 0]) ?_ rfl ⟨p + (on + sb), by rw [HP.out], ?_, fun _ => by rw [HP.out], ?_⟩
      · rw [results_cell_tmp rfl]
        go_simp
        try rfl
      · rw [← HA.out]
        exact HSR.out _ _ HR3.out _ _ _ _
      · exact HST.out _ HM3.out _ _ _ _
    · have HP : Hid (partF F zs U = (2, 0, 0, 0)) := by
        show _ = _
        unfold partF
        rw [HF.out]
        dsimp only
        rw [if_neg (by simp), if_pos (by rw [Int.toNat_natCast, HAB.out, HUL.out]; dsimp only; omega)]
      rw [(fits_no hfit).1, (fits_no hfit).2] at HTK2
      clear hfit
      go_wp2_with (first
        | (go_at_call 108; refine (HSP.out _).mono ?_; rintro e w' ⟨rfl, rfl⟩)
        | (go_at_call 141; refine HTK2.out.mono ?_; rintro e w3 ⟨rfl, hrd3, hm3⟩; have hbx3 := hm3.keep HBX.out (fun h => by have h2 : w.heap.size = r := h; have := HRL.out; omega); have HR3 := Lib.hid hrd3; have HM3 := Lib.hid (HM2.out.then_ hm3); have HBX3 := Lib.hid hbx3; have b0' : w3.cell? ⟨w.heap.size, 0, none⟩ = some (.int .i64 0) := cell_of_row _ _ 0 _ _ _ hbx3; have b1' : w3.cell? ⟨w.heap.size, 1, none⟩ = some (.int .i64 0) := cell_of_row _ _ 1 _ _ _ hbx3; have f0' : w3.frozen? ⟨w.heap.size, 0, none⟩ = false := frozen_of_row _ _ 0 _ _ hbx3; have f1' : w3.frozen? ⟨w.heap.size, 1, none⟩ = false := frozen_of_row _ _ 1 _ _ hbx3; clear hrd3 hm3 hbx3))
      refine bodyPost_ret (v := .tuple #[.agg #[.int .i64 0, .int .i64 0], .int .i64 2]) ?_ rfl ⟨_, by rw [HP.out]; rfl, HSR.out _ _ HR3.out _ _ _ _, fun h => (by rw [HP.out] at h; cases h), HST.out _ HM3.out _ _ _ _⟩
      rw [results_cell_tmp rfl]
      go_simp
      try rfl
  · have HP : Hid (partF F zs U = (er, 0, 0, 0)) := by
      show _ = _
      unfold partF
      rw [hf]
      exact if_pos hne
    have t1 : (er != 0) = true := by simpa using hne
    have HNE := Lib.hid hne
    clear HK hf hne
    · skip
      go_wp2
      refine bodyPost_ret (v := .tuple #[.agg #[.int .i64 0, .int .i64 0], .int .i64 er]) ?_ rfl ⟨_, by rw [HP.out]; rfl, HSR.out _ _ HRD.out _ _ _ _, fun h => absurd (by rw [HP.out] at h; exact h) HNE.out, HST.out _ HM2.out _ _ _ _⟩
      rw [results_cell_tmp rfl]
      go_simp
      try rfl
end Go.Proofs.YtkikgidmioofaaaGreat
/- Layer 9: the lengths of the numbers' codes are taken. -/
namespace Go.Proofs.YtkikgidmioofaaaGreat
open Go.RowKit BitsP

theorem set_pad (A : List Nat) (j y : Nat) : (A ++ List.replicate (j + 1) 0).set A.length y = (A ++ [y]) ++ List.replicate j 0 := by
  rw [List.set_append_right _ _ (Nat.le_refl _), Nat.sub_self, List.replicate_succ, List.set_cons_zero, List.append_assoc]
  rfl
theorem LCa.lower {w : World} {n n' g : Nat} {zs : List Int} (h : LCa w n g zs) (hn : n' ≤ n) : LCa w n' g zs := by
  obtain ⟨A1, A2, A3, c1, c2, c3, m, hcb, hmx, h1, h2, h3, hg, ha⟩ := h
  exact ⟨A1, A2, A3, c1, c2, c3, m, hcb, hmx, h1, h2, h3, Nat.le_trans hn hg, fun a h => Nat.le_trans hn (ha a h)⟩
theorem NB.cellsT {w : World} {g : Nat} {ns : List Nat} (h : NB w g ns) : Cells w w.heap.size (some ⟨g, 0, none⟩) (nCs ns) := fun _ =>
  ⟨g, 0, rfl, h.lt, fun j u hu => by
    rw [Nat.zero_add, cell_of_row w g j _ _ _ h, ← Array.getElem?_toList]
    exact hu⟩
theorem numA_takes {bs : List UInt8} {p q : Nat} (h : p + q ≤ 8 * bs.length) : takes bs p q = numA (unpack bs) p q := takes_yes h
theorem rd_low {w : World} {r base : Nat} {S : Nat → Prop} {bs : List UInt8} {p : Nat} (h : RdS w r base S bs p) : r < w.heap.size ∧ p ≤ 8 * bs.length ∧ S r := by
  obtain ⟨A, c, hb, _, rfl, hp, _⟩ := h
  exact ⟨(Array.getElem?_eq_some_iff.1 hb).1, hp, .inl rfl⟩
set_option maxRecDepth 100000 in
set_option maxHeartbeats 1000000 in
theorem rtcode_any (r base : Nat) (S : Nat → Prop) (bs : List UInt8) (p : Nat) (w : World) (hrd : RdS w r base S bs p) (hbl : bs.length ≤ 1000000) :
    Calls Tryz.prog 142 #[.pointer (some ⟨r, 0, none⟩)] w
      fun e w' => ∃ p' g, RdS w' r base S bs p' ∧ Mod (oneB r) w w' ∧
        ((¬ p + 76 ≤ 8 * bs.length ∧ e = .returned (.tuple #[.pointer none, .int .i64 2])) ∨
         (p + 76 ≤ 8 * bs.length ∧ caR ((lensA (unpack bs) p 19).map fun n : Nat => (n : Int)) = false ∧ e = .returned (.tuple #[.pointer none, .int .i64 13])) ∨
         (p + 76 ≤ 8 * bs.length ∧ caR ((lensA (unpack bs) p 19).map fun n : Nat => (n : Int)) = true ∧ e = .returned (.tuple #[.pointer (some ⟨g, 0, none⟩), .int .i64 0]) ∧ p' = p + 76 ∧ LCa w' w.heap.size g ((lensA (unpack bs) p 19).map fun n : Nat => (n : Int)))) := by
  obtain ⟨hrl, hp8, hSr⟩ := rd_low hrd
  have HTK : Hid (∀ (W : World) (p : Nat), RdS W r base S bs p → _) := fun W p hW => rtake_any r base S bs p 4 W hW (by omega) (by omega) (by omega)
  have mk0 : ∀ W, (Instr.makeSlice 65 (.int .i64 19) (.int .i64 19)).run Tryz.prog W = .ok (.slice (some ⟨W.heap.size, 0, none⟩) 19 19) (W.alloc (.cells (madeCells #[.int .i64 0] 19) 3)) := fun W => make_ints 19 (by omega) W
  obtain ⟨W1, hW1⟩ : ∃ W1, w.alloc (.cells (madeCells #[.int .i64 0] 19) 3) = W1 := ⟨_, rfl⟩
  have HB1 : Hid (Below w.heap.size w W1) := by show Below _ _ _; rw [← hW1]; exact (Below.refl _ w).alloc (Nat.le_refl _) _
  have HN1 : Hid (NB W1 w.heap.size (lensA (unpack bs) p 0 ++ List.replicate 19 0)) := by show NB _ _ _; rw [← hW1]; exact wei_made w 19
  have HM1 : Hid (Mod (oneB r) w W1) := (Mod.of_below HB1.out).mono (fun _ h => h.elim)
  have HR1 : Hid (RdS W1 r base S bs p) := hrd.keep (Mod.of_below HB1.out) (fun _ _ h => h)
  have HSL : Hid (∀ k, S k → k < w.heap.size) := hrd.lt
  rw [show cnt 4 = 4 from rfl] at HTK
  go_enter Tryz.func142, Tryz.ntmps142
  go_wp2
  clear hW1 mk0 hrd HB1
  go_loopg [11] 19 (fun gk i wr => ∃ k : Nat, k + gk = 19 ∧ i = .int .i64 (k : Int) ∧ NB wr w.heap.size (lensA (unpack bs) p k ++ List.replicate gk 0) ∧ RdS wr r base S bs (p + 4 * k) ∧ Mod (oneB r) w wr)
  case atStart => exact ⟨0, by omega, rfl, HN1.out, HR1.out, HM1.out⟩
  case round =>
    obtain ⟨k, hk, rfl, hnb, hrd, hmod⟩ := hrel
    have HNB := Lib.hid hnb
    have HRD := Lib.hid hrd
    have HMD := Lib.hid hmod
    clear hnb hrd hmod HN1 HR1 HM1
    by_cases hk19 : k < 19
    · have HT2 := Lib.hid (HTK.out wr _ HRD.out)
      by_cases hfit : p + 4 * k + 4 ≤ 8 * bs.length
      · rw [(fits_yes hfit).1, (fits_yes hfit).2, numA_takes hfit] at HT2
        have hy := numA_lt (unpack bs) (p + 4 * k) 4
        have HUP : Hid (lensA (unpack bs) p (k + 1) ++ List.replicate (gk - 1) 0 = (lensA (unpack bs) p k ++ List.replicate gk 0).set k (numA (unpack bs) (p + 4 * k) 4)) := by
          show _ = _
          have h := set_pad (lensA (unpack bs) p k) (gk - 1) (numA (unpack bs) (p + 4 * k) 4)
          rw [lensA_len, show gk - 1 + 1 = gk by omega] at h
          rw [h, lensA_up]
        obtain ⟨y, hyy⟩ : ∃ y, numA (unpack bs) (p + 4 * k) 4 = y := ⟨_, rfl⟩
        rw [hyy] at HT2 hy HUP
        have hy16 : y < 16 := hy
        have HE := Lib.hid (show p + 4 * k + 4 = p + 4 * (k + 1) by omega)
        clear hyy hy hfit
        go_wp2_with (go_at_call 141; refine HT2.out.mono ?_; rintro e w2 ⟨rfl, hrd2, hm2⟩; have HN2 := Lib.hid (show NB w2 w.heap.size _ from hm2.keep HNB.out (fun h => by have h2 : w.heap.size = r := h; omega)); have f0 : w2.frozen? ⟨w.heap.size, k, none⟩ = false := HN2.out.free; have q0 : w2.cell? ⟨w.heap.size, k, none⟩ = some (.int .i64 ((0 : Nat) : Int)) := HN2.out.cell (by rw [List.getElem?_append_right (by rw [lensA_len]; omega), lensA_len, Nat.sub_self, List.getElem?_replicate, if_pos (by omega)]); have HR2 := Lib.hid hrd2; have HM2 := Lib.hid (HMD.out.then_ hm2); clear hrd2 hm2)
        go_roundg (gk - 1)
        case measure => omega
        case rel =>
          refine ⟨k + 1, by omega, by go_num, ?_, ?_, HM2.out.set _ _ (.inr (Nat.le_refl _))⟩
          · rw [HUP.out]
            exact HN2.out.set k y
          · rw [← HE.out]
            exact HR2.out.keep (T := oneB w.heap.size) ((Mod.refl (oneB w.heap.size) w2).set ⟨w.heap.size, k, none⟩ _ (.inl rfl)) (fun j hj h => by have h2 : j = w.heap.size := h; have := HSL.out j hj; omega)
      · rw [(fits_no hfit).1, (fits_no hfit).2] at HT2
        go_wp2_with (go_at_call 141; refine HT2.out.mono ?_; rintro e w2 ⟨rfl, hrd2, hm2⟩; have HR2 := Lib.hid hrd2; have HM2 := Lib.hid (HMD.out.then_ hm2); clear hrd2 hm2)
        go_ret2
        exact ⟨_, 0, HR2.out, HM2.out, .inl ⟨by omega, rfl⟩⟩
    · obtain rfl : k = 19 := by omega
      obtain rfl : gk = 0 := by omega
      have HN := Lib.hid (show NB wr w.heap.size (lensA (unpack bs) p 19) by have h := HNB.out; rw [List.replicate_zero, List.append_nil] at h; exact h)
      have HC : Hid (Cells wr wr.heap.size (some ⟨w.heap.size, 0, none⟩) (((lensA (unpack bs) p 19).map fun n : Nat => (n : Int)).map ic)) := by
        show Cells _ _ _ _
        rw [nCs_ic]
        exact NB.cellsT HN.out
      have hp76 := (rd_low HRD.out).2.1
      cases hr : caR ((lensA (unpack bs) p 19).map fun n : Nat => (n : Int)) with
      | false =>
        have HNO := Lib.hid (new_no (some ⟨w.heap.size, 0, none⟩) 19 19 _ wr.heap.size wr (by rw [List.length_map, lensA_len]) (by omega) HC.out hr)
        have HRR := Lib.hid hr
        clear hr
        go_wp2_with (go_at_call 71; refine HNO.out.mono ?_; rintro e w2 ⟨rfl, rfl⟩)
        go_ret2
        exact ⟨_, 0, HRD.out, HMD.out, .inr (.inl ⟨by omega, HRR.out, rfl⟩)⟩
      | true =>
        have HNO := Lib.hid (new_low (some ⟨w.heap.size, 0, none⟩) 19 19 _ wr.heap.size wr (by rw [List.length_map, lensA_len]) (by omega) HC.out (Nat.le_refl _) hr)
        have HRR := Lib.hid hr
        clear hr
        go_wp2_with (go_at_call 71; refine HNO.out.mono ?_; rintro e w2 ⟨g, rfl, hlc, hb2⟩; have HL2 := Lib.hid hlc; have HB2 := Lib.hid hb2; clear hlc hb2)
        go_ret2
        exact ⟨_, g, HRD.out.keep (Mod.of_below HB2.out) (fun _ _ h => h), HMD.out.then_ ((Mod.of_below HB2.out).mono (fun _ h => h.elim)), .inr (.inr ⟨by omega, HRR.out, rfl, by omega, HL2.out.lower HMD.out.size⟩)⟩
end Go.Proofs.YtkikgidmioofaaaGreat
/- Layer 9: a table is taken. -/
namespace Go.Proofs.YtkikgidmioofaaaGreat
open Go.RowKit BitsP

theorem own_leT {w : World} {base base' : Nat} {e : TypeId} {size n : Nat} {v : Value} {xs : List Value} (h : w.ownsRow base e size v n xs) (hb : base' ≤ base) : w.ownsRow base' e size v n xs := by
  obtain ⟨h1, h2⟩ := h
  refine ⟨h1, ?_⟩
  rcases h2 with h2 | ⟨g, c, cur, hv, hg, h3⟩
  · exact .inl h2
  · exact .inr ⟨g, c, cur, hv, Nat.le_trans hb hg, h3⟩
theorem nCs_one (ns : List Nat) : ∀ u ∈ nCs ns, u.oneCell' = true := fun u hu => by
  obtain ⟨n, _, rfl⟩ := List.mem_map.1 hu
  rfl
theorem LCa.keep2 {w w' : World} {n g : Nat} {zs : List Int} {S : Nat → Prop} (h : LCa w n g zs) (hm : Mod S w w') (hS : ∀ k, S k → k < n ∨ g < k) : LCa w' n g zs := by
  obtain ⟨A1, A2, A3, c1, c2, c3, m, hcb, hmx, h1, h2, h3, hg, ha⟩ := h
  have hgl := cb_lt hcb
  have key : ∀ {A : Option Addr} {xs : List Value}, (∀ a, A = some a → n ≤ a.block) → Cells w g A xs → Cells w' g A xs := fun hA hc hp => by
    obtain ⟨b, o, e, hb, hcc⟩ := hc hp
    have hnb := hA _ e
    exact ⟨b, o, e, hb, fun j u hj => (World.cell?_of_block (a := ⟨b, o + j, none⟩) (hm.block b (by omega) (fun hs => by have := hS b hs; dsimp only at hnb; omega))).trans (hcc j u hj)⟩
  exact ⟨A1, A2, A3, c1, c2, c3, m, hm.keep hcb (fun hs => by have := hS g hs; omega), hmx, key (fun a e => ha a (.inl e)) h1, key (fun a e => ha a (.inr (.inl e))) h2, key (fun a e => ha a (.inr (.inr e))) h3, hg, ha⟩
/-- What the loop keeps: the lengths, the reader, the code. -/
structure TkI (w W : World) (r base B : Nat) (S : Nat → Prop) (bs : List UInt8) (p g : Nat) (zs : List Int) (v : Value) (ls : List Nat) : Prop where
  row : W.ownsRow B 3 1 v ls.length (nCs ls)
  rd : RdS W r base S bs p
  mod : Mod (oneB r) w W
  code : LCa W w.heap.size g zs
  big : B ≤ W.heap.size
section
variable {w W W' : World} {r base B p p' g : Nat} {S : Nat → Prop} {bs : List UInt8} {zs : List Int} {v v' : Value} {ls ls' : List Nat}
theorem TkI.part (h : TkI w W r base B S bs p g zs v ls) (hr : r < w.heap.size) (hB : w.heap.size ≤ B) (hm : Mod (oneB r) W W') (hrd : RdS W' r base S bs p') : TkI w W' r base B S bs p' g zs v ls :=
  ⟨own_keep h.row hm (fun k hk hs => by have h2 : k = r := hs; have := own_base h.row k hk; omega), hrd, h.mod.then_ hm, h.code.keep2 hm (fun k hs => by have h2 : k = r := hs; omega), Nat.le_trans h.big hm.size⟩
theorem TkI.below (h : TkI w W r base B S bs p g zs v ls) (hb : Below W.heap.size W W') : TkI w W' r base B S bs p g zs v ls :=
  ⟨own_keep h.row (Mod.of_below hb) (fun _ _ h => h), h.rd.keep (Mod.of_below hb) (fun _ _ h => h), h.mod.then_ ((Mod.of_below hb).mono fun _ h => h.elim), h.code.keep2 (Mod.of_below hb) (fun _ h => h.elim), Nat.le_trans h.big hb.size⟩
theorem TkI.app {m : Nat} {xs : List Value} (h : TkI w W r base B S bs p g zs v ls) (hSL : ∀ k, S k → k < w.heap.size) (hB : w.heap.size ≤ B) (hg : g < B) (ha : App W B 3 1 v m xs W' v') (hm : m = ls'.length) (hx : xs = nCs ls') : TkI w W' r base B S bs p g zs v' ls' := by
  subst hm hx
  exact ⟨ha.own, h.rd.keep (Mod.of_app ha) (fun k hk hs => by have := hSL k hk; have := own_base h.row k hs; omega), h.mod.trans (Mod.of_app ha) (fun k hk => .inr (by have := own_base h.row k hk; omega)), h.code.keep2 (Mod.of_app ha) (fun k hk => .inr (by have := own_base h.row k hk; omega)), Nat.le_trans h.big (Mod.of_app ha).size⟩
end
set_option maxRecDepth 100000 in
set_option maxHeartbeats 2000000 in
theorem rntake_any (F : List Int → List Bool → Int × Int × Nat) (hF : FunT F) (r base : Nat) (S : Nat → Prop) (bs : List UInt8) (p : Nat) (w : World) (hrd : RdS w r base S bs p) (hbl : bs.length ≤ 1000000) :
    Calls Tryz.prog 121 #[.pointer (some ⟨r, 0, none⟩)] w
      fun e w' => ∃ A c p', e = .returned (.tuple #[.slice A (tkF F (unpack bs) p).2.1.length c, .int .i64 (tkF F (unpack bs) p).1]) ∧ w'.ownsRow w.heap.size 3 1 (.slice A (tkF F (unpack bs) p).2.1.length c) (tkF F (unpack bs) p).2.1.length (nCs (tkF F (unpack bs) p).2.1) ∧ RdS w' r base S bs p' ∧ ((tkF F (unpack bs) p).1 = 0 → p' = (tkF F (unpack bs) p).2.2) ∧ Mod (oneB r) w w' := by
  obtain ⟨hrl, hp8, hSr⟩ := rd_low hrd
  have HT := Lib.hid (rtake_any r base S bs p 9 w hrd (by omega) (by omega) (by omega))
  rw [show cnt 9 = 9 from rfl] at HT
  have HRD := Lib.hid hrd
  have HSL : Hid (∀ k, S k → k < w.heap.size) := hrd.lt
  have HBACK : Hid (∀ (e : Ending) (w' : World) (t : Int × List Nat × Nat), tkF F (unpack bs) p = t → (∃ A c p', e = .returned (.tuple #[.slice A t.2.1.length c, .int .i64 t.1]) ∧ w'.ownsRow w.heap.size 3 1 (.slice A t.2.1.length c) t.2.1.length (nCs t.2.1) ∧ RdS w' r base S bs p' ∧ (t.1 = 0 → p' = t.2.2) ∧ Mod (oneB r) w w') →
    ∃ A c p', e = .returned (.tuple #[.slice A (tkF F (unpack bs) p).2.1.length c, .int .i64 (tkF F (unpack bs) p).1]) ∧ w'.ownsRow w.heap.size 3 1 (.slice A (tkF F (unpack bs) p).2.1.length c) (tkF F (unpack bs) p).2.1.length (nCs (tkF F (unpack bs) p).2.1) ∧ RdS w' r base S bs p' ∧ ((tkF F (unpack bs) p).1 = 0 → p' = (tkF F (unpack bs) p).2.2) ∧ Mod (oneB r) w w') := fun e w' t ht h => by rw [ht]; exact h
  have HERR : Hid (∀ (e : Ending) (w' : World) (er : Int) (p' : Nat), e = .returned (.tuple #[.slice none 0 0, .int .i64 er]) → er ≠ 0 → tkF F (unpack bs) p = (er, [], 0) → RdS w' r base S bs p' → Mod (oneB r) w w' → _) := fun e w' er p' he hne ht hr hm => HBACK.out e w' _ ht ⟨none, 0, p', he, World.ownsRow_nil _ _ _ _, hr, fun h => absurd h hne, hm⟩
  have hLl := unpack_length bs
  obtain ⟨L, hL⟩ : ∃ L, unpack bs = L := ⟨_, rfl⟩
  have HL := Lib.hid hL
  rw [hL] at hLl
  clear hrd HBACK
  go_enter Tryz.func121, Tryz.ntmps121
  by_cases h9 : p + 9 ≤ 8 * bs.length
  · rw [(fits_yes h9).1, (fits_yes h9).2, numA_takes h9, hL] at HT
    have hn512 := numA_lt L p 9
    obtain ⟨n, hn⟩ : ∃ n, numA L p 9 = n := ⟨_, rfl⟩
    have HN := Lib.hid hn
    rw [hn] at HT hn512
    have hn512' : n < 512 := hn512
    clear hn hn512
    by_cases hbad : n = 0 ∨ 320 < n
    · have HTK : Hid (tkF F (unpack bs) p = (5, [], 0)) := by show _ = _; rw [hL, tkF, if_neg (by omega), HN.out, if_pos hbad]
      clear hL
      rcases hbad with h0 | h0
      · subst h0
        go_wp2_with (go_at_call 141; refine HT.out.mono ?_; rintro e w2 ⟨rfl, hrd2, hm2⟩; have HR2 := Lib.hid hrd2; have HM2 := Lib.hid hm2; clear hrd2 hm2)
        refine bodyPost_ret (results_tmp2 rfl _ _ _) rfl (HERR.out _ _ 5 _ rfl (by decide) HTK.out HR2.out HM2.out)
      · have t1 : ((n : Int) == 0) = false := by simp; omega
        have t2 : decide ((320 : Int) < (n : Int)) = true := decide_eq_true (by omega)
        go_wp2_with (go_at_call 141; refine HT.out.mono ?_; rintro e w2 ⟨rfl, hrd2, hm2⟩; have HR2 := Lib.hid hrd2; have HM2 := Lib.hid hm2; clear hrd2 hm2)
        refine bodyPost_ret (results_tmp2 rfl _ _ _) rfl (HERR.out _ _ 5 _ rfl (by decide) HTK.out HR2.out HM2.out)
    · have t1 : ((n : Int) == 0) = false := by simp; omega
      have t2 : decide ((320 : Int) < (n : Int)) = false := decide_eq_false (by omega)
      go_wp2_with (first
        | (go_at_call 141; refine HT.out.mono ?_; rintro e w2 ⟨rfl, hrd2, hm2⟩; have HR2 := Lib.hid hrd2; have HM2 := Lib.hid hm2; clear hrd2 hm2))
      refine (rtcode_any r base S bs (p + 9) w2 HR2.out hbl).mono ?_
      rintro e w3 ⟨p3, g, hrd3, hm3, h3⟩
      have HR3 := Lib.hid hrd3
      have HM3 := Lib.hid (HM2.out.then_ hm3)
      clear hrd3 hm3
      rw [hL] at h3
      obtain ⟨zs, hzs⟩ : ∃ zs : List Int, ((lensA L (p + 9) 19).map fun n : Nat => (n : Int)) = zs := ⟨_, rfl⟩
      rw [hzs] at h3
      have hS2 := HM2.out.size
      rcases h3 with ⟨hno, rfl⟩ | ⟨hy, hca, rfl⟩ | ⟨hy, hca, rfl, rfl, hlc⟩
      · have HTK : Hid (tkF F (unpack bs) p = (2, [], 0)) := by show _ = _; rw [hL, tkF, if_neg (by omega), HN.out, if_neg hbad, if_pos (by omega)]
        clear hL hno hbad hzs
        go_wp2
        refine bodyPost_ret (results_tmp2 rfl _ _ _) rfl (HERR.out _ _ 2 _ rfl (by decide) HTK.out HR3.out HM3.out)
      · have HTK : Hid (tkF F (unpack bs) p = (13, [], 0)) := by show _ = _; rw [hL, tkF, if_neg (by omega), HN.out, if_neg hbad, if_neg (by omega), hzs, if_pos hca]
        clear hL hbad hzs hca
        go_wp2
        refine bodyPost_ret (results_tmp2 rfl _ _ _) rfl (HERR.out _ _ 13 _ rfl (by decide) HTK.out HR3.out HM3.out)
      · have HTK : Hid (tkF F (unpack bs) p = lensF F zs n L n [] (p + 85)) := by show _ = _; rw [hL, tkF, if_neg (by omega), HN.out, if_neg hbad, if_neg (by omega), hzs, if_neg (by rw [hca]; simp)]
        have HCA := Lib.hid hca
        have HG : Hid (g < w3.heap.size) := by obtain ⟨_, _, _, _, _, _, _, h, _⟩ := hlc; exact cb_lt h
        have HI3 : Hid (TkI w w3 r base w3.heap.size S bs (p + 9 + 76) g zs (.slice none 0 0) []) := ⟨World.ownsRow_nil _ _ _ _, HR3.out, HM3.out, hlc.lower hS2, Nat.le_refl _⟩
        have HB3 : Hid (w.heap.size ≤ w3.heap.size) := HM3.out.size
        have hn320 : n ≤ 320 := by omega
        clear hbad hca hlc hzs HR3 HM3 hy
        go_wp2
        go_loopg [8] n (fun gk v wr => ∃ (ls : List Nat) (p' : Nat), lensF F zs n L n [] (p + 85) = lensF F zs n L gk ls p' ∧ n ≤ ls.length + gk ∧ ls.length ≤ n ∧ TkI w wr r base w3.heap.size S bs p' g zs v ls)
        case atStart => exact ⟨[], p + 9 + 76, rfl, by simp, by simp, HI3.out⟩
        case round =>
          obtain ⟨ls, p', hle, hfu, hln, hti⟩ := hrel
          obtain ⟨Av, cv, rfl⟩ := own_form hti.row
          have HLE := Lib.hid hle
          have HTI := Lib.hid hti
          clear hle hti HI3
          obtain ⟨ll, hll⟩ : ∃ ll, ls.length = ll := ⟨_, rfl⟩
          have HLL := Lib.hid hll
          rw [hll] at hfu hln ⊢
          by_cases hlt : ll < n
          · obtain ⟨j, rfl⟩ : ∃ j, gk = j + 1 := ⟨gk - 1, by omega⟩
            have HP := Lib.hid (rtpart_any F hF g r base zs S bs p' wr HCA.out HTI.out.code.lc HTI.out.rd hbl)
            have HPM := Lib.hid (partF_many F zs (L.drop p'))
            have HLF : Hid (lensF F zs n L (j + 1) ls p' = if (partF F zs (L.drop p')).1 ≠ 0 then ((partF F zs (L.drop p')).1, [], 0) else if (partF F zs (L.drop p')).2.1 = 16 ∧ ls = [] then (3, [], 0) else if n < ls.length + (partF F zs (L.drop p')).2.2.1 then (3, [], 0) else lensF F zs n L j (ls ++ List.replicate (partF F zs (L.drop p')).2.2.1 (saysP ls (partF F zs (L.drop p')).2.1)) (p' + (partF F zs (L.drop p')).2.2.2)) := by
              show _ = _
              rw [lensF, if_neg (by omega)]
            rw [hL] at HP
            obtain ⟨P, hP⟩ : ∃ P, partF F zs (L.drop p') = P := ⟨_, rfl⟩
            rw [hP] at HP HPM HLF
            obtain ⟨er, num, many, on⟩ := P
            dsimp only at HP HPM HLF
            clear hP
            by_cases her : er = 0
            · subst her
              obtain ⟨hm1, hm4⟩ := HPM.out rfl
              rw [if_neg (by simp)] at HLF
              by_cases h16 : num = 16 ∧ ls = []
              · rw [if_pos h16] at HLF
                obtain ⟨rfl, rfl⟩ := h16
                obtain rfl : 0 = ll := HLL.out
                have HFO := Lib.hid (fun W => follow_no cv many Av W)
                clear hfu
                go_wp2_with (first
                  | (go_at_call 143; refine HP.out.mono ?_; rintro e w4 ⟨p4, rfl, hrd4, hpe, hm4'⟩; have HI5 := Lib.hid (fun o => (HTI.out.part hrl HB3.out hm4' hrd4).below ((Below.refl _ w4).alloc (Nat.le_refl _) o)); clear hrd4 hpe hm4')
                  | (go_at_call 144; refine (HFO.out _).mono ?_; rintro e w6 ⟨rfl, hb6⟩; have HI6 := Lib.hid ((HI5.out _).below hb6); clear hb6))
                refine bodyPost_ret (results_tmp2 rfl _ _ _) rfl (HERR.out _ _ 3 _ rfl (by decide) (by rw [HTK.out, HLE.out, HLF.out]) HI6.out.rd HI6.out.mod)
              · rw [if_neg h16] at HLF
                have hsn : num = 16 → 0 < ll := fun h => by
                  rcases Nat.eq_zero_or_pos ll with h0 | h0
                  · exact absurd ⟨h, List.eq_nil_of_length_eq_zero (by rw [HLL.out]; exact h0)⟩ h16
                  · exact h0
                have HFO : Hid (∀ W : World, W.ownsRow w3.heap.size 3 1 (.slice Av ls.length cv) ls.length (nCs ls) → _) := fun W hW => follow_any Av ll cv ls num many W.heap.size W HLL.out (by omega) (Cells.of_own hW) (Nat.le_refl _) hsn hm1 hm4
                rw [HLL.out] at HLF
                by_cases hbig : n < ll + many
                · rw [if_pos hbig] at HLF
                  clear hfu h16 hsn
                  go_wp2_with (first
                    | (go_at_call 143; refine HP.out.mono ?_; rintro e w4 ⟨p4, rfl, hrd4, hpe, hm4'⟩; have HI5 := Lib.hid (fun o => (HTI.out.part hrl HB3.out hm4' hrd4).below ((Below.refl _ w4).alloc (Nat.le_refl _) o)); clear hrd4 hpe hm4')
                    | (go_at_call 144; refine (HFO.out _ (HI5.out _).row).mono ?_; rintro e w6 ⟨g6, rfl, hg6, hn6, hb6⟩; have HI6 := Lib.hid ((HI5.out _).below hb6); clear hb6 hn6 hg6))
                  refine bodyPost_ret (results_tmp2 rfl _ _ _) rfl (HERR.out _ _ 3 _ rfl (by decide) (by rw [HTK.out, HLE.out, HLF.out]) HI6.out.rd HI6.out.mod)
                · rw [if_neg hbig] at HLF
                  obtain ⟨x, hx⟩ : ∃ x, saysP ls num = x := ⟨_, rfl⟩
                  rw [hx] at HLF HFO
                  have HNC : Hid (nCs (ls ++ List.replicate many x) = nCs ls ++ nCs (List.replicate many x)) := by show _ = _; simp [nCs]
                  have HNL : Hid ((ls ++ List.replicate many x).length = ll + many) := by show _ = _; rw [List.length_append, HLL.out, List.length_replicate]
                  have hadd : ll + many ≤ n := by omega
                  have HFU := Lib.hid hfu
                  clear h16 hsn hx hfu
                  go_wp2_with (first
                    | (go_at_call 143; refine HP.out.mono ?_; rintro e w4 ⟨p4, rfl, hrd4, hpe, hm4'⟩; have HI5 := Lib.hid (fun o => (HTI.out.part hrl HB3.out hm4' hrd4).below ((Below.refl _ w4).alloc (Nat.le_refl _) o)); have HPE := Lib.hid (hpe rfl); clear hrd4 hpe hm4')
                    | (go_at_call 144; refine (HFO.out _ (HI5.out _).row).mono ?_; rintro e w6 ⟨g6, rfl, hg6, hn6, hb6⟩; have HI6 := Lib.hid ((HI5.out _).below hb6); have HN6 := Lib.hid hn6; clear hb6 hn6 hg6)
                    | (at_builtin; refine wpList_app w6 intElem rfl (.tmp 66) (.tmp 67) rfl w3.heap.size (.slice Av ll cv) ll (nCs ls) rfl (by have h := HI6.out.row; rw [HLL.out] at h; exact h) w6.heap.size (some ⟨g6, 0, none⟩) many many (nCs (List.replicate many x)) rfl (by rw [nCs_len, List.length_replicate, Nat.mul_one]) (NB.cellsT HN6.out) (nCs_one _) (by unfold maxLen; omega) (by omega) HI6.out.big ?_; intro A7 c7 w7 hA; have HI7 := Lib.hid (HI6.out.app (ls' := ls ++ List.replicate many x) HSL.out HB3.out HG.out (by rw [HLL.out]; exact hA) HNL.out.symm HNC.out.symm); clear hA))
                  go_roundg j
                  case measure => omega
                  case rel => exact ⟨ls ++ List.replicate many x, p' + on, by rw [HLE.out, HLF.out], by rw [HNL.out]; have := HFU.out; omega, by rw [HNL.out]; omega, by rw [← HPE.out]; exact HI7.out⟩
            · rw [if_pos her] at HLF
              have t3 : (er != 0) = true := by simpa using her
              have HER := Lib.hid her
              clear hfu her
              go_wp2_with (go_at_call 143; refine HP.out.mono ?_; rintro e w4 ⟨p4, rfl, hrd4, hpe, hm4'⟩; have HI5 := Lib.hid (fun o => (HTI.out.part hrl HB3.out hm4' hrd4).below ((Below.refl _ w4).alloc (Nat.le_refl _) o)); clear hrd4 hpe hm4')
              refine bodyPost_ret (results_tmp2 rfl _ _ _) rfl (HERR.out _ _ er _ rfl HER.out (by rw [HTK.out, HLE.out, HLF.out]) (HI5.out _).rd (HI5.out _).mod)
          · have HE : Hid (tkF F (unpack bs) p = (0, ls, p')) := by
              show _ = _
              rw [HTK.out, HLE.out]
              cases gk with
              | zero => rfl
              | succ j => rw [lensF, if_pos (by omega)]
            have HHH := Lib.hid hll
            clear hfu
            go_wp2
            refine bodyPost_ret (results_tmp2 rfl _ _ _) rfl ?_
            rw [HE.out]
            dsimp only
            rw [HLL.out]
            exact ⟨Av, cv, p', rfl, own_leT (by have h := HTI.out.row; rw [HLL.out] at h; exact h) HB3.out, HTI.out.rd, fun _ => rfl, HTI.out.mod⟩
  · rw [(fits_no h9).1, (fits_no h9).2] at HT
    have HTK : Hid (tkF F (unpack bs) p = (2, [], 0)) := by show _ = _; rw [hL, tkF, if_pos (by omega)]
    clear hL
    go_wp2_with (go_at_call 141; refine HT.out.mono ?_; rintro e w2 ⟨rfl, hrd2, hm2⟩; have HR2 := Lib.hid hrd2; have HM2 := Lib.hid hm2; clear hrd2 hm2)
    refine bodyPost_ret (results_tmp2 rfl _ _ _) rfl (HERR.out _ _ 2 _ rfl (by decide) HTK.out HR2.out HM2.out)
end Go.Proofs.YtkikgidmioofaaaGreat
/- Layer 9: the reference's Take. -/
namespace Go.Proofs.YtkikgidmioofaaaGreat
open Go.RowKit BitsP

set_option maxRecDepth 100000 in
set_option maxHeartbeats 4000000 in
theorem rrtake_le (F : List Int → List Bool → Int × Int × Nat) (hF : FunT F) (A : Option Addr) (l c : Nat) (L : List Bool) (p : Nat) (w : World) (hl : L.length = l) (hm : l ≤ 1000000) (hlc : l ≤ c) (hb : Bytes w w.heap.size A (bitBytes L)) (hp : p ≤ l) :
    Calls Tryz.prog 58 #[.slice A l c, .int .i64 (p : Int)] w
      fun e w' => ∃ A c, e = .returned (.tuple #[.slice A (tkF F L p).2.1.length c, .int .i64 ((tkF F L p).2.2 : Nat), .int .i64 (tkF F L p).1]) ∧ w'.ownsRow w.heap.size 3 1 (.slice A (tkF F L p).2.1.length c) (tkF F L p).2.1.length (nCs (tkF F L p).2.1) ∧ Below w.heap.size w w' ∧ ((tkF F L p).1 = 0 → (tkF F L p).2.2 ≤ l) := by
  have HBACK : Hid (∀ (e : Ending) (w' : World) (t : Int × List Nat × Nat), tkF F L p = t → (∃ A c, e = .returned (.tuple #[.slice A t.2.1.length c, .int .i64 (t.2.2 : Nat), .int .i64 t.1]) ∧ w'.ownsRow w.heap.size 3 1 (.slice A t.2.1.length c) t.2.1.length (nCs t.2.1) ∧ Below w.heap.size w w' ∧ (t.1 = 0 → t.2.2 ≤ l)) →
    ∃ A c, e = .returned (.tuple #[.slice A (tkF F L p).2.1.length c, .int .i64 ((tkF F L p).2.2 : Nat), .int .i64 (tkF F L p).1]) ∧ w'.ownsRow w.heap.size 3 1 (.slice A (tkF F L p).2.1.length c) (tkF F L p).2.1.length (nCs (tkF F L p).2.1) ∧ Below w.heap.size w w' ∧ ((tkF F L p).1 = 0 → (tkF F L p).2.2 ≤ l)) := fun e w' t ht h => by rw [ht]; exact h
  have HERR : Hid (∀ (e : Ending) (w' : World) (er : Int), e = .returned (.tuple #[.slice none 0 0, .int .i64 0, .int .i64 er]) → tkF F L p = (er, [], 0) → Below w.heap.size w w' → _) := fun e w' er he ht hr => HBACK.out e w' _ ht ⟨none, 0, he, World.ownsRow_nil _ _ _ _, hr, fun _ => Nat.zero_le _⟩
  have HNUM : Hid (∀ (W : World) (a b : Nat), Below w.heap.size w W → a ≤ 2000000 → b ≤ 32 → Calls Tryz.prog 29 #[.slice A l c, .int .i64 (a : Int), .int .i64 (b : Int)] W fun e w' => e = .returned (.int .u32 (numA L a b : Nat)) ∧ W = w') := fun W a b hW ha hb32 => by
    have h := refNumber_any A l c w.heap.size L a (b : Int) W hl (by omega) (by omega) (by omega) (by omega) (hb.below hW (Nat.le_refl _))
    rw [cnt_nat hb32] at h
    exact h
  have mk0 : ∀ W, (Instr.makeSlice 65 (.int .i64 19) (.int .i64 19)).run Tryz.prog W = .ok (.slice (some ⟨W.heap.size, 0, none⟩) 19 19) (W.alloc (.cells (madeCells #[.int .i64 0] 19) 3)) := fun W => make_ints 19 (by omega) W
  have HLL := Lib.hid hl
  have HBY : Hid (∀ W, Below w.heap.size w W → Bytes W w.heap.size A (bitBytes L)) := fun W hW => hb.below hW (Nat.le_refl _)
  clear hb hl HBACK
  go_enter Tryz.func58, Tryz.ntmps58
  by_cases h9 : l < p + 9
  · have HTK : Hid (tkF F L p = (2, [], 0)) := by show _ = _; rw [tkF, if_pos (by rw [HLL.out]; exact h9)]
    have t0 : (l : Int) - (p : Int) < 9 := by omega
    go_wp2
    refine bodyPost_ret (results_tmp3 rfl _ _ _) rfl (HERR.out _ _ 2 rfl HTK.out (Below.refl _ _))
  have t0 : decide ((l : Int) - (p : Int) < 9) = false := decide_eq_false (by omega)
  obtain ⟨n, hn⟩ : ∃ n, numA L p 9 = n := ⟨_, rfl⟩
  have HN := Lib.hid hn
  have hn512 : n < 512 := by rw [← hn]; exact numA_lt L p 9
  have HN9 := Lib.hid (fun W hW => HNUM.out W p 9 hW (by omega) (by omega))
  rw [hn] at HN9
  clear hn
  by_cases hbad : n = 0 ∨ 320 < n
  · have HTK : Hid (tkF F L p = (5, [], 0)) := by show _ = _; rw [tkF, if_neg (by rw [HLL.out]; exact h9), HN.out, if_pos hbad]
    clear h9
    rcases hbad with h0 | h0
    · subst h0
      go_wp2_with (go_at_call 29; refine (HN9.out _ (Below.refl _ _)).mono ?_; rintro e w2 ⟨rfl, rfl⟩)
      refine bodyPost_ret (results_tmp3 rfl _ _ _) rfl (HERR.out _ _ 5 rfl HTK.out (Below.refl _ _))
    · have t1 : decide ((n : Int) < 1) = false := decide_eq_false (by omega)
      have t2 : decide ((320 : Int) < (n : Int)) = true := decide_eq_true (by omega)
      go_wp2_with (go_at_call 29; refine (HN9.out _ (Below.refl _ _)).mono ?_; rintro e w2 ⟨rfl, rfl⟩)
      refine bodyPost_ret (results_tmp3 rfl _ _ _) rfl (HERR.out _ _ 5 rfl HTK.out (Below.refl _ _))
  have t1 : decide ((n : Int) < 1) = false := decide_eq_false (by omega)
  have t2 : decide ((320 : Int) < (n : Int)) = false := decide_eq_false (by omega)
  by_cases h85 : l < p + 85
  · have HTK : Hid (tkF F L p = (2, [], 0)) := by show _ = _; rw [tkF, if_neg (by rw [HLL.out]; exact h9), HN.out, if_neg hbad, if_pos (by rw [HLL.out]; exact h85)]
    have t3 : decide ((l : Int) - ((p : Int) + 9) < 76) = true := decide_eq_true (by omega)
    clear h9 hbad h85
    go_wp2_with (go_at_call 29; refine (HN9.out _ (Below.refl _ _)).mono ?_; rintro e w2 ⟨rfl, rfl⟩)
    refine bodyPost_ret (results_tmp3 rfl _ _ _) rfl (HERR.out _ _ 2 rfl HTK.out (Below.refl _ _))
  have t3 : decide ((l : Int) - ((p : Int) + 9) < 76) = false := decide_eq_false (by omega)
  go_wp2_with (go_at_call 29; refine (HN9.out _ (Below.refl _ _)).mono ?_; rintro e w2 ⟨rfl, rfl⟩)
  obtain ⟨W1, hW1⟩ : ∃ W1, w.alloc (.cells (madeCells #[.int .i64 0] 19) 3) = W1 := ⟨_, rfl⟩
  have HB1 : Hid (Below w.heap.size w W1) := by show Below _ _ _; rw [← hW1]; exact (Below.refl _ w).alloc (Nat.le_refl _) _
  have HN1 : Hid (NB W1 w.heap.size (lensA L (p + 9) 0 ++ List.replicate 19 0)) := by show NB _ _ _; rw [← hW1]; exact wei_made w 19
  rw [hW1]
  clear hW1 mk0 t0 t3 HN9
  go_loopg [1, 9] 19 (fun gk a i wr => ∃ k : Nat, k + gk = 19 ∧ i = .int .i64 (k : Int) ∧ a = .int .i64 ((p + 9 + 4 * k : Nat) : Int) ∧ NB wr w.heap.size (lensA L (p + 9) k ++ List.replicate gk 0) ∧ Below w.heap.size w wr)
  case atStart => exact ⟨0, by omega, rfl, by go_num, HN1.out, HB1.out⟩
  case round =>
    obtain ⟨k, hk, rfl, rfl, hnb, hbel⟩ := hrel
    have HNB := Lib.hid hnb
    have HBEL := Lib.hid hbel
    clear hnb hbel HN1 HB1
    by_cases hk19 : k < 19
    · have HT2 := Lib.hid (HNUM.out wr (p + 9 + 4 * k) 4 HBEL.out (by omega) (by omega))
      have hy := numA_lt L (p + 9 + 4 * k) 4
      have HUP : Hid (lensA L (p + 9) (k + 1) ++ List.replicate (gk - 1) 0 = (lensA L (p + 9) k ++ List.replicate gk 0).set k (numA L (p + 9 + 4 * k) 4)) := by
        show _ = _
        have h := set_pad (lensA L (p + 9) k) (gk - 1) (numA L (p + 9 + 4 * k) 4)
        rw [lensA_len, show gk - 1 + 1 = gk by omega] at h
        rw [h, lensA_up]
      obtain ⟨y, hyy⟩ : ∃ y, numA L (p + 9 + 4 * k) 4 = y := ⟨_, rfl⟩
      rw [hyy] at HT2 hy HUP
      have hy16 : y < 16 := hy
      have f0 : wr.frozen? ⟨w.heap.size, k, none⟩ = false := HNB.out.free
      have q0 : wr.cell? ⟨w.heap.size, k, none⟩ = some (.int .i64 ((0 : Nat) : Int)) := HNB.out.cell (by rw [List.getElem?_append_right (by rw [lensA_len]; omega), lensA_len, Nat.sub_self, List.getElem?_replicate, if_pos (by omega)])
      clear hyy hy
      obtain ⟨a, ha⟩ : ∃ a, p + 9 + 4 * k = a := ⟨_, rfl⟩
      have HA4 := Lib.hid ha
      have hal : a ≤ l := by omega
      rw [ha] at HT2 ⊢
      clear ha
      go_wp2_with (go_at_call 29; refine HT2.out.mono ?_; rintro e w2 ⟨rfl, rfl⟩)
      go_roundg (gk - 1)
      case measure => omega
      case rel => exact ⟨k + 1, by omega, by go_num, by have := HA4.out; rw [show p + 9 + 4 * (k + 1) = a + 4 by omega]; go_num, by rw [HUP.out]; exact HNB.out.set k y, HBEL.out.setCell (Nat.le_refl _) _⟩
    · obtain rfl : k = 19 := by omega
      obtain rfl : gk = 0 := by omega
      have HN2 := Lib.hid (show NB wr w.heap.size (lensA L (p + 9) 19) by have h := HNB.out; rw [List.replicate_zero, List.append_nil] at h; exact h)
      obtain ⟨zs, hzs⟩ : ∃ zs : List Int, ((lensA L (p + 9) 19).map fun n : Nat => (n : Int)) = zs := ⟨_, rfl⟩
      have hzl : zs.length = 19 := by rw [← hzs, List.length_map, lensA_len]
      have HC2 : Hid (Cells wr wr.heap.size (some ⟨w.heap.size, 0, none⟩) (zs.map ic)) := by
        show Cells _ _ _ _
        rw [← hzs, nCs_ic]
        exact NB.cellsT HN2.out
      have HRI := Lib.hid (ref8Right_any (some ⟨w.heap.size, 0, none⟩) 19 19 zs wr.heap.size wr hzl (by omega) HC2.out)
      cases hca : caR zs with
      | false =>
        have HTK : Hid (tkF F L p = (13, [], 0)) := by show _ = _; rw [tkF, if_neg (by rw [HLL.out]; exact h9), HN.out, if_neg hbad, if_neg (by rw [HLL.out]; exact h85), hzs, if_pos hca]
        rw [hca] at HRI
        clear h9 hbad h85 hzs hca
        go_wp2_with (go_at_call 59; refine HRI.out.mono ?_; rintro e w2 ⟨rfl, rfl⟩)
        refine bodyPost_ret (results_tmp3 rfl _ _ _) rfl (HERR.out _ _ 13 rfl HTK.out HBEL.out)
      | true =>
        have HTK : Hid (tkF F L p = lensF F zs n L n [] (p + 85)) := by show _ = _; rw [tkF, if_neg (by rw [HLL.out]; exact h9), HN.out, if_neg hbad, if_neg (by rw [HLL.out]; exact h85), hzs, if_neg (by rw [hca]; simp)]
        rw [hca] at HRI
        have HCA := Lib.hid hca
        have HMX := Lib.hid (caR_max hca)
        have HVA := Lib.hid (ref8Values_any (some ⟨w.heap.size, 0, none⟩) 19 19 zs wr.heap.size wr hzl (by omega) HC2.out (Nat.le_refl _))
        have hp85 : p + 85 ≤ l := by omega
        have hn320 : n ≤ 320 := by omega
        clear h9 hbad h85 hzs hca
        go_wp2_with (first
          | (go_at_call 59; refine HRI.out.mono ?_; rintro e w2 ⟨rfl, rfl⟩)
          | (go_at_call 46; refine HVA.out.mono ?_; rintro e w4 ⟨rfl, hi4, hb4⟩; have HI4 := Lib.hid hi4; have HB4 := Lib.hid (HBEL.out.trans (hb4.mono HBEL.out.size)); have HC4 := Lib.hid (HC2.out.below hb4 (Nat.le_refl _)); have HZ4 : Hid (wr.heap.size < w4.heap.size) := ib_lt hi4; clear hi4 hb4))
        obtain ⟨gv, hgv⟩ : ∃ gv, wr.heap.size = gv := ⟨_, rfl⟩
        rw [hgv] at HI4 HC4 HZ4 ⊢
        have hw4s := HB4.out.size
        have hnb4 : w.heap.size < gv := by rw [← hgv]; exact HN2.out.lt
        have HCZ : Hid (∀ W, Below w4.heap.size w4 W → Cells W W.heap.size (some ⟨w.heap.size, 0, none⟩) (zs.map ic)) := fun W hW => (HC4.out.below hW (Nat.le_of_lt HZ4.out)).more (by have := HZ4.out; have := hW.size; omega)
        have HCV : Hid (∀ W, Below w4.heap.size w4 W → Cells W W.heap.size (some ⟨gv, 0, none⟩) ((caV zs).map ic)) := fun W hW => ((ib_cells HI4.out HZ4.out).below hW (Nat.le_refl _)).more hW.size
        have HBYW : Hid (∀ W, Below w4.heap.size w4 W → Bytes W W.heap.size A (bitBytes L)) := fun W hW => by
          have h := HBY.out W (HB4.out.trans (hW.mono hw4s))
          exact h.more (Nat.le_trans hw4s hW.size)
        have HNUW : Hid (∀ (W : World) (a b : Nat), Below w4.heap.size w4 W → a ≤ 2000000 → b ≤ 32 → _) := fun W a b hW ha hb => HNUM.out W a b (HB4.out.trans (hW.mono hw4s)) ha hb
        have HW4 : Hid (Below w.heap.size w w4) := HB4.out
        clear HN2 HC2 HRI HVA HNUM HBY HBEL HNB HI4 HC4 HZ4 HB4 hgv hnb4 hw4s
        go_loopg [1, 11] n (fun gk a v wr => ∃ (ls : List Nat) (p' : Nat), a = .int .i64 (p' : Int) ∧ lensF F zs n L n [] (p + 85) = lensF F zs n L gk ls p' ∧ n ≤ ls.length + gk ∧ ls.length ≤ n ∧ p' ≤ l ∧ wr.ownsRow w4.heap.size 3 1 v ls.length (nCs ls) ∧ Below w4.heap.size w4 wr)
        case atStart => exact ⟨[], p + 85, by go_num, rfl, by simp, by simp, hp85, World.ownsRow_nil _ _ _ _, Below.refl _ _⟩
        case round =>
          obtain ⟨ls, p', rfl, hle, hfu, hln, hpl, hrow, hbel⟩ := hrel
          obtain ⟨Av, cv, rfl⟩ := own_form hrow
          have HLE := Lib.hid hle
          have HBEL := Lib.hid hbel
          obtain ⟨ll, hll⟩ : ∃ ll, ls.length = ll := ⟨_, rfl⟩
          have HLN := Lib.hid hll
          have HROW : Hid (wr.ownsRow w4.heap.size 3 1 (.slice Av ll cv) ll (nCs ls)) := by rw [hll] at hrow; exact hrow
          rw [hll] at hfu hln ⊢
          clear hle hbel hrow hll
          by_cases hlt : ll < n
          · obtain ⟨j, rfl⟩ : ∃ j, gk = j + 1 := ⟨gk - 1, by omega⟩
            have HT8 := Lib.hid (refTake8_any (some ⟨w.heap.size, 0, none⟩) (some ⟨gv, 0, none⟩) A 19 19 19 l c zs L p' wr HCA.out hzl (HCZ.out wr HBEL.out) (HCV.out wr HBEL.out) HLL.out hm hlc (HBYW.out wr HBEL.out) hpl)
            have HLF0 : Hid (∀ P : Int × Nat × Nat × Nat, partF F zs (L.drop p') = P → lensF F zs n L (j + 1) ls p' = if P.1 ≠ 0 then (P.1, [], 0) else if P.2.1 = 16 ∧ ls = [] then (3, [], 0) else if n < ll + P.2.2.1 then (3, [], 0) else lensF F zs n L j (ls ++ List.replicate P.2.2.1 (saysP ls P.2.1)) (p' + P.2.2.2)) := fun P hP => by
              rw [lensF, if_neg (by have := HLN.out; omega), hP, HLN.out]
            go_wp2_with fail
            refine HT8.out.mono ?_
            rintro e w5 ⟨on, s, er, rfl, htk, hb5⟩
            have HB5 := Lib.hid (HBEL.out.trans (hb5.mono HBEL.out.size))
            have HROW5 := Lib.hid (own_keep HROW.out (Mod.of_below hb5) (fun _ _ h => h))
            obtain ⟨mx, hmx⟩ := HMX.out
            have HK := Lib.hid (kindsT hF hmx (htk mx hmx))
            have hUl : (L.drop p').length = l - p' := by rw [List.length_drop, HLL.out]
            have HUL := Lib.hid hUl
            clear hb5 htk hmx HT8 hUl
            rcases HK.out with ⟨rfl, t, rfl, htl, hon, hf⟩ | ⟨hne, rfl, hf⟩
            · have HF := Lib.hid hf
              rw [hzl] at htl
              rw [HUL.out] at hon
              have HEX := Lib.hid (fun W => rextra_any t W)
              obtain ⟨⟨sa, sb⟩, hab⟩ : ∃ ab, spanP t = ab := ⟨_, rfl⟩
              have hsp := spanP_le t
              have hms := mostP_span t
              have HAB := Lib.hid hab
              rw [hab] at HEX hsp hms
              dsimp only at HEX hsp hms
              obtain ⟨q, hq⟩ : ∃ q, p' + on = q := ⟨_, rfl⟩
              have e1 : (p' : Int) + (on : Int) = (q : Int) := by omega
              have HQ := Lib.hid hq
              have hql : q ≤ l := by omega
              clear HK hf hab hq hon
              by_cases hfit : l < q + sb
              · have HLF := HLF0.out (2, 0, 0, 0) (by
                  unfold partF
                  rw [HF.out]
                  dsimp only
                  rw [if_neg (by simp), if_pos (by rw [Int.toNat_natCast, HAB.out, HUL.out]; dsimp only; have := HQ.out; omega)])
                rw [if_pos (by simp)] at HLF
                dsimp only at HLF
                have HLF := Lib.hid HLF
                have t5 : decide ((l : Int) - (q : Int) < (sb : Int)) = true := decide_eq_true (by omega)
                clear hfit hms hfu
                go_wp2_with (go_at_call 86; refine (HEX.out _).mono ?_; rintro e w2 ⟨rfl, rfl⟩)
                refine bodyPost_ret (results_tmp3 rfl _ _ _) rfl (HERR.out _ _ 2 rfl (by rw [HTK.out, HLE.out, HLF.out]) (HW4.out.trans (HB5.out.mono HW4.out.size)))
              · have t5 : decide ((l : Int) - (q : Int) < (sb : Int)) = false := decide_eq_false (by omega)
                obtain ⟨y, hy⟩ : ∃ y, numA L q sb = y := ⟨_, rfl⟩
                have hyl : y < 2 ^ sb := by rw [← hy]; exact numA_lt L q sb
                have HNY : Hid (∀ W, Below w4.heap.size w4 W → _) := fun W hW => HNUW.out W q sb hW (by omega) (by omega)
                rw [hy] at HNY
                obtain ⟨many, hmany⟩ : ∃ many, sa + y = many := ⟨_, rfl⟩
                have e2 : (sa : Int) + (y : Int) = (many : Int) := by omega
                have h7 : 2 ^ sb ≤ 128 := Nat.pow_le_pow_right (n := 2) (by decide) hsp.2.2
                have hmm : sa ≤ many ∧ many ≤ mostP t := by omega
                have hm138 := (mostP_le t).2
                have hmb : many ≤ 138 := by omega
                have HLF := HLF0.out (0, t, many, on + sb) (by
                  unfold partF
                  rw [HF.out]
                  dsimp only
                  rw [if_neg (by simp), if_neg (by rw [Int.toNat_natCast, HAB.out, HUL.out]; dsimp only; have := HQ.out; omega), Int.toNat_natCast, HAB.out, List.drop_drop, HQ.out]
                  dsimp only
                  rw [show num ((L.drop q).take sb) = y from hy, hmany])
                rw [if_neg (by simp)] at HLF
                dsimp only at HLF
                have hyb : y ≤ 128 := by omega
                have HMM : Hid ((spanP t).1 ≤ many ∧ many ≤ mostP t) := by rw [HAB.out]; exact hmm
                have hpn : p' + (on + sb) ≤ l := by have := HQ.out; omega
                have e3 : (q : Int) + (sb : Int) = ((p' + (on + sb) : Nat) : Int) := by have := HQ.out; omega
                clear hy hmany hms hyl hfit hm138 hmm h7 HLF0
                by_cases h16 : t = 16
                · subst h16
                  have hab : ((3, 2) : Nat × Nat) = (sa, sb) := HAB.out
                  obtain ⟨rfl, rfl⟩ : 3 = sa ∧ 2 = sb := by simpa using hab
                  have hmm3 : 3 ≤ many ∧ many ≤ 6 := HMM.out
                  have e2' : (3 : Int) + (y : Int) = (many : Int) := by omega
                  have e3' : (q : Int) + 2 = ((p' + (on + 2) : Nat) : Int) := by omega
                  by_cases hll0 : ll = 0
                  · have hnil : ls = [] := List.eq_nil_of_length_eq_zero (by rw [HLN.out]; exact hll0)
                    subst hll0
                    rw [if_pos ⟨rfl, hnil⟩] at HLF
                    have HLF := Lib.hid HLF
                    have HJ := Lib.hid (fun W : World => rjoin_no W.heap.size 1 many (W.alloc (.cells #[.int .i64 16, .int .i64 (many : Int)] 141)) (by simp) hmm3.1 hmm3.2 (row2_0 W _ _ _) (row2_1 W _ _ _))
                    have t4 : decide ((0 : Int) < ((0 : Nat) : Int)) = false := by simp
                    clear hab hnil hfu
                    go_wp2_with (first
                      | (go_at_call 86; refine (HEX.out _).mono ?_; rintro e w2 ⟨rfl, rfl⟩)
                      | (go_at_call 29; refine (HNY.out _ HB5.out).mono ?_; rintro e w2 ⟨rfl, rfl⟩)
                      | (go_at_call 95; refine (HJ.out w5).mono ?_; rintro e w6 ⟨rfl, hb6⟩; have HB6 := Lib.hid (HB5.out.trans ((((Below.refl w5.heap.size w5).alloc (Nat.le_refl _) _).trans (hb6.mono (by simp))).mono HB5.out.size)); have HROW6 := Lib.hid (own_keep HROW5.out (Mod.of_below ((((Below.refl w5.heap.size w5).alloc (Nat.le_refl _) _).trans (hb6.mono (by simp))))) (fun _ _ h => h)); clear hb6)
                      | (at_builtin; refine wpList_app w6 intElem rfl (.tmp 132) (.tmp 133) rfl w4.heap.size (.slice Av 0 cv) 0 (nCs ls) rfl HROW6.out w6.heap.size none 0 0 [] rfl (by simp) (Cells.nil _ _ _) (by first | exact nCs_one _ | simp) (by unfold maxLen; omega) (by omega) HB6.out.size ?_; intro A7 c7 w7 hA; have HA7 := Lib.hid hA; clear hA))
                    refine bodyPost_ret (results_tmp3 rfl _ _ _) rfl (HERR.out _ _ 3 rfl (by rw [HTK.out, HLE.out, HLF.out]) (HW4.out.trans ((HA7.out.below HB6.out HB6.out.size (own_base HROW.out)).mono HW4.out.size)))
                  · have h0 : 0 < ll := by omega
                    rw [if_neg (by rintro ⟨_, h⟩; rw [h] at HLN; exact hll0 HLN.out.symm)] at HLF
                    have HLC := Lib.hid (last_cell HLN.out h0)
                    obtain ⟨x, hx⟩ : ∃ x, saysP ls 16 = x := ⟨_, rfl⟩
                    rw [hx] at HLF HLC
                    have HJ := Lib.hid (fun W : World => rjoin_no W.heap.size 1 many (W.alloc (.cells #[.int .i64 16, .int .i64 (many : Int)] 141)) (by simp) hmm3.1 hmm3.2 (row2_0 W _ _ _) (row2_1 W _ _ _))
                    have HUP : Hid (∀ k, nCs (List.replicate (k + 1) x) = nCs (List.replicate k x) ++ [.int .i64 (x : Int)]) := fun k => by
                      rw [List.replicate_succ', nCs, List.map_append]
                      rfl
                    have HNC : Hid (nCs (ls ++ List.replicate many x) = nCs ls ++ nCs (List.replicate many x)) := by show _ = _; simp [nCs]
                    have HNL : Hid ((ls ++ List.replicate many x).length = ll + many) := by show _ = _; rw [List.length_append, HLN.out, List.length_replicate]
                    have t4 : decide ((0 : Int) < (ll : Int)) = true := decide_eq_true (by omega)
                    have t4n : decide (0 < ll) = true := decide_eq_true h0
                    have hw1 : IntKind.i64.wrap ((ll : Int) - 1) = ((ll - 1 : Nat) : Int) := by rw [IntWalk.i64_in _ (by omega)]; omega
                    have hlt1 : ((ll - 1 : Nat) : Int) < (ll : Int) := by omega
                    have hge1 : (0 : Int) ≤ ((ll - 1 : Nat) : Int) := by omega
                    have HFU := Lib.hid hfu
                    clear hab hll0 hx hfu h0
                    go_wp2_with (first
                      | (go_at_call 86; refine (HEX.out _).mono ?_; rintro e w2 ⟨rfl, rfl⟩)
                      | (go_at_call 29; refine (HNY.out _ HB5.out).mono ?_; rintro e w2 ⟨rfl, rfl⟩)
                      | (go_at_call 95; refine (HJ.out w5).mono ?_; rintro e w6 ⟨rfl, hb6⟩; have HB6 := Lib.hid (HB5.out.trans ((((Below.refl w5.heap.size w5).alloc (Nat.le_refl _) _).trans (hb6.mono (by simp))).mono HB5.out.size)); have HROW6 := Lib.hid (own_keep HROW5.out (Mod.of_below ((((Below.refl w5.heap.size w5).alloc (Nat.le_refl _) _).trans (hb6.mono (by simp))))) (fun _ _ h => h)); clear hb6))
                    obtain ⟨b, o, rfl, hbB, hc⟩ := (Cells.of_own HROW6.out) (by rw [nCs_len, HLN.out]; omega)
                    have HCX : Hid (∀ W, Below w6.heap.size w6 W → W.cell? ⟨b, o + (ll - 1), none⟩ = some (.int .i64 (x : Int))) := fun W hW => (hW.cell (p := ⟨b, o + (ll - 1), none⟩) hbB).trans (hc _ _ (nCs_at HLC.out))
                    clear hc hbB HB5 HROW5 HBEL t4 t4n
                    go_loopg [17, 18] many (fun gk v i wr => ∃ k2 : Nat, k2 + gk = many ∧ i = .int .i64 (k2 : Int) ∧ (∃ A c, v = .slice A k2 c) ∧ wr.ownsRow w6.heap.size 3 1 v k2 (nCs (List.replicate k2 x)) ∧ Below w6.heap.size w6 wr)
                    case atStart => exact ⟨0, by omega, rfl, ⟨none, 0, rfl⟩, World.ownsRow_nil _ _ _ _, Below.refl _ _⟩
                    case round =>
                      obtain ⟨k2, hk2, rfl, ⟨A3, c3, rfl⟩, hrow, hbel⟩ := hrel
                      have HROW3 := Lib.hid hrow
                      have HBEL3 := Lib.hid hbel
                      have HB63 := Lib.hid (HB6.out.trans (hbel.mono HB6.out.size))
                      have HROWL := Lib.hid (own_keep HROW6.out (Mod.of_below hbel) (fun _ _ h => h))
                      have q2 := HCX.out wr hbel
                      clear hrow hbel
                      by_cases hkm : k2 < many
                      · go_wp2_with (first
                          | (go_at_call 29; refine (HNY.out _ HB63.out).mono ?_; rintro e w2 ⟨rfl, rfl⟩)
                          | (at_builtin; refine wpList_app1 wr intElem rfl (.tmp 120) (.tmp 127) rfl w6.heap.size (.slice A3 k2 c3) k2 (nCs (List.replicate k2 x)) rfl HROW3.out _ rfl rfl (by simp [Value.oneCell']) (by unfold maxLen; omega) (by omega) HBEL3.out.size ?_; intro A' c' w8 hA; have HA := Lib.hid hA; clear hA))
                        go_roundg (gk - 1)
                        case measure => omega
                        case rel =>
                          refine ⟨k2 + 1, by omega, by go_num, ⟨A', c', rfl⟩, ?_, HA.out.below HBEL3.out HBEL3.out.size (own_base HROW3.out)⟩
                          have h := HA.out.own
                          rw [HUP.out]
                          exact h
                      · obtain rfl : k2 = many := by omega
                        have HC3 := Lib.hid (Cells.of_own HROW3.out)
                        by_cases hbig : n < ll + k2
                        · rw [if_pos hbig] at HLF
                          have HLF := Lib.hid HLF
                          go_wp2_with (first
                            | (go_at_call 29; refine (HNY.out _ HB63.out).mono ?_; rintro e w2 ⟨rfl, rfl⟩)
                            | (at_builtin; refine wpList_app wr intElem rfl (.tmp 132) (.tmp 133) rfl w4.heap.size (.slice (some ⟨b, o, none⟩) ll cv) ll (nCs ls) rfl HROWL.out wr.heap.size A3 k2 c3 (nCs (List.replicate k2 x)) rfl (by simp [nCs]) HC3.out (by first | exact nCs_one _ | simp) (by unfold maxLen; omega) (by omega) HB63.out.size ?_; intro A7 c7 w7 hA; have HA7 := Lib.hid hA; clear hA))
                          refine bodyPost_ret (results_tmp3 rfl _ _ _) rfl (HERR.out _ _ 3 rfl (by rw [HTK.out, HLE.out, HLF.out]) (HW4.out.trans ((HA7.out.below HB63.out HB63.out.size (own_base HROW.out)).mono HW4.out.size)))
                        · rw [if_neg hbig] at HLF
                          have HLF := Lib.hid HLF
                          have hadd : ll + k2 ≤ n := by omega
                          go_wp2_with (first
                            | (go_at_call 29; refine (HNY.out _ HB63.out).mono ?_; rintro e w2 ⟨rfl, rfl⟩)
                            | (at_builtin; refine wpList_app wr intElem rfl (.tmp 132) (.tmp 133) rfl w4.heap.size (.slice (some ⟨b, o, none⟩) ll cv) ll (nCs ls) rfl HROWL.out wr.heap.size A3 k2 c3 (nCs (List.replicate k2 x)) rfl (by simp [nCs]) HC3.out (by first | exact nCs_one _ | simp) (by unfold maxLen; omega) (by omega) HB63.out.size ?_; intro A7 c7 w7 hA; have HA7 := Lib.hid hA; clear hA))
                          go_roundg j
                          case measure => omega
                          case rel => exact ⟨ls ++ List.replicate k2 x, p' + (on + 2), by go_num, by rw [HLE.out, HLF.out], by rw [HNL.out]; have := HFU.out; omega, by rw [HNL.out]; omega, by omega, by rw [HNL.out, HNC.out]; exact HA7.out.own, HA7.out.below HB63.out HB63.out.size (own_base HROW.out)⟩
                · rw [if_neg (by rintro ⟨h, _⟩; exact h16 h)] at HLF
                  have t16 : ((t : Int) == 16) = false := by simp; omega
                  obtain ⟨x, hx⟩ : ∃ x, saysP ls t = x := ⟨_, rfl⟩
                  rw [hx] at HLF
                  have hx0 : saysP [] t = x := by rw [← hx]; unfold saysP; rw [if_neg h16, if_neg h16]
                  have HJ := Lib.hid (fun W : World => rjoin_any W.heap.size 1 t many x (W.alloc (.cells #[.int .i64 (t : Int), .int .i64 (many : Int)] 141)) (by simp) (by omega) h16 HMM.out.1 HMM.out.2 hx0 (row2_0 W _ _ _) (row2_1 W _ _ _))
                  have HNC : Hid (nCs (ls ++ List.replicate many x) = nCs ls ++ nCs (List.replicate many x)) := by show _ = _; simp [nCs]
                  have HNL : Hid ((ls ++ List.replicate many x).length = ll + many) := by show _ = _; rw [List.length_append, HLN.out, List.length_replicate]
                  have HFU := Lib.hid hfu
                  clear hx hx0 h16 hfu
                  by_cases hbig : n < ll + many
                  · rw [if_pos hbig] at HLF
                    have HLF := Lib.hid HLF
                    go_wp2_with (first
                      | (go_at_call 86; refine (HEX.out _).mono ?_; rintro e w2 ⟨rfl, rfl⟩)
                      | (go_at_call 29; refine (HNY.out _ HB5.out).mono ?_; rintro e w2 ⟨rfl, rfl⟩)
                      | (go_at_call 95; refine (HJ.out w5).mono ?_; rintro e w6 ⟨A6, c6, rfl, hown6, hb6⟩; have HB6 := Lib.hid (HB5.out.trans ((((Below.refl w5.heap.size w5).alloc (Nat.le_refl _) _).trans (hb6.mono (by simp))).mono HB5.out.size)); have HROW6 := Lib.hid (own_keep HROW5.out (Mod.of_below ((((Below.refl w5.heap.size w5).alloc (Nat.le_refl _) _).trans (hb6.mono (by simp))))) (fun _ _ h => h)); have HC6 := Lib.hid (Cells.of_own hown6); clear hb6 hown6)
                      | (at_builtin; refine wpList_app w6 intElem rfl (.tmp 132) (.tmp 133) rfl w4.heap.size (.slice Av ll cv) ll (nCs ls) rfl HROW6.out w6.heap.size A6 many c6 (nCs (List.replicate many x)) rfl (by simp [nCs]) HC6.out (by first | exact nCs_one _ | simp) (by unfold maxLen; omega) (by omega) HB6.out.size ?_; intro A7 c7 w7 hA; have HA7 := Lib.hid hA; clear hA))
                    refine bodyPost_ret (results_tmp3 rfl _ _ _) rfl (HERR.out _ _ 3 rfl (by rw [HTK.out, HLE.out, HLF.out]) (HW4.out.trans ((HA7.out.below HB6.out HB6.out.size (own_base HROW.out)).mono HW4.out.size)))
                  · rw [if_neg hbig] at HLF
                    have HLF := Lib.hid HLF
                    have hadd : ll + many ≤ n := by omega
                    go_wp2_with (first
                      | (go_at_call 86; refine (HEX.out _).mono ?_; rintro e w2 ⟨rfl, rfl⟩)
                      | (go_at_call 29; refine (HNY.out _ HB5.out).mono ?_; rintro e w2 ⟨rfl, rfl⟩)
                      | (go_at_call 95; refine (HJ.out w5).mono ?_; rintro e w6 ⟨A6, c6, rfl, hown6, hb6⟩; have HB6 := Lib.hid (HB5.out.trans ((((Below.refl w5.heap.size w5).alloc (Nat.le_refl _) _).trans (hb6.mono (by simp))).mono HB5.out.size)); have HROW6 := Lib.hid (own_keep HROW5.out (Mod.of_below ((((Below.refl w5.heap.size w5).alloc (Nat.le_refl _) _).trans (hb6.mono (by simp))))) (fun _ _ h => h)); have HC6 := Lib.hid (Cells.of_own hown6); clear hb6 hown6)
                      | (at_builtin; refine wpList_app w6 intElem rfl (.tmp 132) (.tmp 133) rfl w4.heap.size (.slice Av ll cv) ll (nCs ls) rfl HROW6.out w6.heap.size A6 many c6 (nCs (List.replicate many x)) rfl (by simp [nCs]) HC6.out (by first | exact nCs_one _ | simp) (by unfold maxLen; omega) (by omega) HB6.out.size ?_; intro A7 c7 w7 hA; have HA7 := Lib.hid hA; clear hA))
                    go_roundg j
                    case measure => omega
                    case rel => exact ⟨ls ++ List.replicate many x, p' + (on + sb), by go_num, by rw [HLE.out, HLF.out], by rw [HNL.out]; have := HFU.out; omega, by rw [HNL.out]; omega, by omega, by rw [HNL.out, HNC.out]; exact HA7.out.own, HA7.out.below HB6.out HB6.out.size (own_base HROW.out)⟩
            · have HLF := HLF0.out (er, 0, 0, 0) (by unfold partF; rw [hf]; exact if_pos hne)
              rw [if_pos (by simpa using hne)] at HLF
              dsimp only at HLF
              have HLF := Lib.hid HLF
              have t3 : (er != 0) = true := by simpa using hne
              clear HK hne hf hfu
              go_wp2
              refine bodyPost_ret (results_tmp3 rfl _ _ _) rfl (HERR.out _ _ er rfl (by rw [HTK.out, HLE.out, HLF.out]) (HW4.out.trans (HB5.out.mono HW4.out.size)))
          · have HE : Hid (tkF F L p = (0, ls, p')) := by
              show _ = _
              rw [HTK.out, HLE.out]
              cases gk with
              | zero => rfl
              | succ j => rw [lensF, if_pos (by rw [HLN.out]; omega)]
            clear hfu
            go_wp2
            refine bodyPost_ret (results_tmp3 rfl _ _ _) rfl ?_
            rw [HE.out]
            dsimp only
            rw [HLN.out]
            exact ⟨Av, cv, rfl, own_leT HROW.out HW4.out.size, HW4.out.trans (HBEL.out.mono HW4.out.size), fun _ => hpl⟩
end Go.Proofs.YtkikgidmioofaaaGreat
/- Layer 13: a class is put; a table is put, and its code made. -/
namespace Go.Proofs.YtkikgidmioofaaaGreat
open Go.RowKit BitsP SymP

set_option maxRecDepth 100000 in
set_option maxHeartbeats 1000000 in
theorem putClass_any (g q base n : Nat) (zs : List Int) (S : Nat → Prop) (L : List Bool) (c : Nat × Nat × Nat) (w : World) (hr : caR zs = true) (hc : LCa w n g zs) (hw : WrS w q base S L) (hL : L.length ≤ 1000000000) (hbase : base ≤ w.heap.size) (h2 : c.2.1 ≤ 13) (h3 : c.2.2 < 2 ^ c.2.1) :
    Calls Tryz.prog 40 #[.pointer (some ⟨q, 0, none⟩), .pointer (some ⟨g, 0, none⟩), .agg #[.int .i64 (c.1 : Int), .int .i64 (c.2.1 : Int), .int .u32 (c.2.2 : Int)]] w fun e w' => e = .returned (.tuple #[]) ∧ ∃ S', WrS w' q base S' (L ++ clsB zs c) ∧ Mod S w w' ∧ ∀ k, S' k → S k ∨ w.heap.size ≤ k := by
  obtain ⟨num, nb, ex⟩ := c
  dsimp only at h2 h3
  have h32 : ex < 4294967296 := Nat.lt_of_lt_of_le h3 (Nat.le_trans (Nat.pow_le_pow_right (by decide) h2) (by decide))
  obtain ⟨W1, hW1⟩ : ∃ W1, w.alloc (.cells #[.int .i64 (num : Int), .int .i64 (nb : Int), .int .u32 (ex : Int)] 73) = W1 := ⟨_, rfl⟩
  have HB1 : Hid (Below w.heap.size w W1) := by show Below _ _ _; rw [← hW1]; exact (Below.refl _ w).alloc (Nat.le_refl _) _
  have HZ1 : Hid (W1.heap.size = w.heap.size + 1) := by show _ = _; rw [← hW1]; simp
  have HX1 : Hid (W1.heap[w.heap.size]? = some (.cells #[.int .i64 (num : Int), .int .i64 (nb : Int), .int .u32 (ex : Int)] 73 (0, 0))) := by show _ = _; rw [← hW1]; exact heap_alloc_new w _
  have c0 : W1.cell? ⟨w.heap.size, 0, none⟩ = some (.int .i64 (num : Int)) := cell_of_row _ _ 0 _ _ _ HX1.out
  have HP8 := Lib.hid (put8_any g q base zs S L (num : Int) W1 hr (hc.keep2 (Mod.of_below HB1.out) (fun _ h => h.elim)).lc (hw.keep (Mod.of_below HB1.out) (fun _ _ h => h)) (by omega) (by have := HZ1.out; omega))
  have HSL : Hid (∀ k, S k → k < w.heap.size) := hw.lt
  have HSY := Lib.hid (symB_len hr (num : Int))
  have hsy := HSY.out
  have HCB : Hid (clsB zs (num, nb, ex) = symB zs (num : Int) ++ bitsOf ex nb) := rfl
  have hz1 := HZ1.out
  clear hc hw hr h3
  go_enter Tryz.func40, Tryz.ntmps40
  go_wp2_with (first
    | (go_at_call 41; refine HP8.out.mono ?_; rintro e w2 ⟨rfl, S2, hw2, hm2, hs2⟩; have hx2 := hm2.keep HX1.out (fun h => by have := HSL.out _ h; omega); have HM2 := Lib.hid (((Mod.of_below HB1.out).mono (fun _ h => h.elim)).then_ hm2); have HS2 : Hid (∀ k, S2 k → S k ∨ w.heap.size ≤ k) := (fun k hk => (hs2 k hk).imp id (fun h => by omega)); have c1' : w2.cell? ⟨w.heap.size, 1, none⟩ = some (.int .i64 (nb : Int)) := cell_of_row _ _ 1 _ _ _ hx2; have c2' : w2.cell? ⟨w.heap.size, 2, none⟩ = some (.int .u32 (ex : Int)) := cell_of_row _ _ 2 _ _ _ hx2; have HWP := Lib.hid (wput_any q base S2 _ (ex : Int) (nb : Int) w2 hw2 (by rw [List.length_append]; omega) (by have := HM2.out.size; omega) (by omega) (by omega) (by omega) (by omega)); rw [cnt_nat (k := nb) (by omega), Int.toNat_natCast, List.append_assoc, ← HCB.out] at HWP; clear hw2 hm2 hs2 hx2)
    | (go_at_call 74; refine HWP.out.mono ?_; rintro e w3 ⟨rfl, S3, hw3, hm3, hs3⟩; have HW3 := Lib.hid hw3; have HM3 := Lib.hid (HM2.out.trans hm3 HS2.out); have HS3 : Hid (∀ k, S3 k → S k ∨ w.heap.size ≤ k) := (fun k hk => (hs3 k hk).elim (HS2.out k) (fun h => .inr (Nat.le_trans HM2.out.size h))); clear hw3 hm3 hs3))
  refine bodyPost_end (results_none rfl _ _ _) rfl ⟨rfl, S3, HW3.out, HM3.out, HS3.out⟩
theorem own_addr {w : World} {base : Nat} {e : TypeId} {size n c : Nat} {a : Addr} {xs : List Value} (h : w.ownsRow base e size (.slice (some a) n c) n xs) : base ≤ a.block := by
  obtain ⟨_, h2⟩ := h
  rcases h2 with ⟨h2, _⟩ | ⟨g, cap, cur, hv, hg, _⟩
  · cases h2
  · simp only [Value.slice.injEq, Option.some.injEq] at hv
    obtain ⟨rfl, _, _⟩ := hv
    exact hg
set_option maxRecDepth 100000 in
set_option maxHeartbeats 1000000 in
theorem putTable_any (A : Option Addr) (l c q base : Nat) (ws : List Nat) (S : Nat → Prop) (L : List Bool) (w : World) (hl : ws.length = l) (hm : l ≤ 320) (hb : Cells w w.heap.size A (nCs ws)) (hok : ∀ x ∈ ws, x ≤ 1073741824) (hpos : ∃ s x : Nat, ws[s]? = some x ∧ 0 < x) (hw : WrS w q base S L) (hL : L.length ≤ 100000000) (hbase : base ≤ w.heap.size) :
    Calls Tryz.prog 38 #[.pointer (some ⟨q, 0, none⟩), .slice A l c] w fun e w' => ∃ g n S', e = .returned (.pointer (some ⟨g, 0, none⟩)) ∧ WrS w' q base S' (L ++ tabP (lensW ws)) ∧ Mod S w w' ∧ (∀ k, S' k → S k ∨ w.heap.size ≤ k) ∧ LCa w' n g (zN (lensW ws)) ∧ (∀ k, S' k → k < n) ∧ g < w'.heap.size := by
  obtain ⟨s, x, hx, h0⟩ := hpos
  have hr := lensW_caR (by omega) hx h0
  have h1l : 1 ≤ l := by have := (List.getElem?_eq_some_iff.1 hx).1; omega
  have hv : ∀ y ∈ lensW ws, y ≤ 15 := fun y hy => by
    obtain ⟨k, hk⟩ := List.mem_iff_getElem?.1 hy
    have hkl := (List.getElem?_eq_some_iff.1 hk).1
    rw [lensW_len] at hkl
    have h2 := (lensW_pos (ns := ws) (by omega) (List.getElem?_eq_getElem hkl)).2
    rw [List.getD, hk] at h2
    exact h2
  have HLN := Lib.hid (lengths_ok A l c ws w.heap.size w hl (by omega) hb (Nat.le_refl _) hok)
  have HLL : Hid ((lensW ws).length = l) := by show _ = _; rw [lensW_len, hl]
  obtain ⟨os, hos⟩ : ∃ os, lensW ws = os := ⟨_, rfl⟩
  rw [hos] at HLN HLL hr hv ⊢
  have HR := Lib.hid hr
  have HV := Lib.hid hv
  have HW := Lib.hid hw
  clear hl hb hok hx h0 hr hv hw hos
  go_enter Tryz.func38, Tryz.ntmps38
  go_wp2_with (first
    | (go_at_call 69; refine HLN.out.mono ?_; rintro e w2 ⟨A2, c2, rfl, hown2, hb2⟩; have HO2 := Lib.hid hown2; have HB2 := Lib.hid hb2; clear hown2 hb2)
    | (go_at_call 70; refine (rnput_any A2 l c2 os q base S L w2 HLL.out h1l hm HV.out (Cells.of_own HO2.out) (fun a ha hS => by have h3 := HO2.out; rw [ha] at h3; have := own_addr h3; have := HW.out.lt _ hS; omega) (HW.out.keep (Mod.of_below HB2.out) (fun _ _ h => h)) (by omega) (Nat.le_trans hbase HB2.out.size)).mono ?_; rintro e w3 ⟨rfl, S3, hw3, hm3, hs3⟩; have HW3 := Lib.hid hw3; have HM3 := Lib.hid hm3; have HS3 := Lib.hid hs3; have HO3 := Lib.hid (own_keep HO2.out hm3 (fun k hk hS => by have := own_base HO2.out k hk; have := HW.out.lt _ hS; omega)); clear hw3 hm3 hs3)
    | (go_at_call 71; refine (new_low A2 l c2 (zN os) w3.heap.size w3 (by rw [zN_len]; exact HLL.out) (by omega) (by rw [show (zN os).map ic = nCs os from nCs_ic _]; exact Cells.of_own HO3.out) (Nat.le_refl _) HR.out).mono ?_; rintro e w5 ⟨g, rfl, hlc, hb5⟩; have HLC := Lib.hid hlc; have HB5 := Lib.hid hb5; clear hlc hb5))
  go_ret
  refine ⟨g, w3.heap.size, S3, rfl, HW3.out.keep (Mod.of_below HB5.out) (fun _ _ h => h), ?_, fun k hk => (HS3.out k hk).imp id (fun h => Nat.le_trans HB2.out.size h), HLC.out, HW3.out.lt, ?_⟩
  · exact (((Mod.of_below HB2.out).mono (fun _ h => h.elim)).then_ HM3.out).then_ ((Mod.of_below HB5.out).mono fun _ h => h.elim)
  · obtain ⟨_, _, _, _, _, _, _, h, _⟩ := HLC.out
    exact cb_lt h
end Go.Proofs.YtkikgidmioofaaaGreat
/- Layer 9: the table that any bytes begin with: the law. -/
namespace Go.Proofs.YtkikgidmioofaaaGreat
open Go.RowKit BitsP

theorem own_capT {w : World} {base : Nat} {e : TypeId} {size n c : Nat} {A : Option Addr} {xs : List Value} (h : w.ownsRow base e size (.slice A n c) n xs) : n ≤ c := by
  obtain ⟨_, h2⟩ := h
  rcases h2 with ⟨h2, h3⟩ | ⟨g, cap, cur, hv, _, _, hnc, _⟩
  · cases h2
    exact Nat.le_refl _
  · simp only [Value.slice.injEq] at hv
    obtain ⟨_, _, rfl⟩ := hv
    exact hnc
end Go.Proofs.YtkikgidmioofaaaGreat
