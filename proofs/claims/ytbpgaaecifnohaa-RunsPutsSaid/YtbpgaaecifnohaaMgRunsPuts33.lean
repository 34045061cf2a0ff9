/- Layer 9: the reference's Put. -/
import Derived.Test.YtbpgaaecifnohaaMgRunsPuts24
import Derived.Test.YtbpgaaecifnohaaMgRunsPuts28
import Derived.Test.YtbpgaaecifnohaaMgRunsPuts29
import Derived.Test.YtbpgaaecifnohaaMgRunsPuts30
import Derived.Test.YtbpgaaecifnohaaMgRunsPuts32
import Derived.Deep.RegionLaw
import Derived.Test.YtbpgaaecifnohaaMgRunsPuts20
import Derived.Test.YtbpgaaecifnohaaMgRunsPuts22
namespace Go.Proofs.Ytbpgaaecifnohaa
open Go.RowKit BitsP
attribute [local go_sem ↓] Go.wp_at_zero Go.wp_at_succ

theorem rextra_any (n : Nat) (w : World) : Calls Try.prog 34 #[.int .i64 (n : Int)] w fun e w' => e = .returned (.tuple #[.int .i64 ((spanP n).2 : Nat), .int .i64 ((spanP n).1 : Nat)]) ∧ w = w' := by
  by_cases h1 : n = 16
  · subst h1
    go_enter Try.func34, Try.ntmps34
    go_wp2
    go_ret2
    exact ⟨rfl, rfl⟩
  by_cases h2 : n = 17
  · subst h2
    go_enter Try.func34, Try.ntmps34
    go_wp2
    go_ret2
    exact ⟨rfl, rfl⟩
  by_cases h3 : n = 18
  · subst h3
    go_enter Try.func34, Try.ntmps34
    go_wp2
    go_ret2
    exact ⟨rfl, rfl⟩
  have HS : Hid (spanP n = (1, 0)) := by show _ = _; unfold spanP; rw [if_neg h1, if_neg h2, if_neg h3]
  have t1 : ((n : Int) == 16) = false := by simp; omega
  have t2 : ((n : Int) == 17) = false := by simp; omega
  have t3 : ((n : Int) == 18) = false := by simp; omega
  rw [HS.out]
  clear h1 h2 h3
  go_enter Try.func34, Try.ntmps34
  go_wp2
  go_ret2
  exact ⟨rfl, rfl⟩
theorem lnP_sym {ps : List (Nat × Nat)} {t : Nat × Nat} (h : t ∈ ps) (h19 : t.1 < 19) : ∃ n v k, Sym (zN (lnP ps)) t.1 n v k ∧ (lnP ps)[t.1]? = some n ∧ symB (zN (lnP ps)) (t.1 : Int) = codeB v n ∧ v < 32768 ∧ n ≤ 15 := by
  have hr := lnP_right h h19
  obtain ⟨n0, hn0, h1, h2⟩ := lnP_pos h h19
  have hz : (zN (lnP ps))[t.1]? = some (n0 : Int) := by rw [zN, List.getElem?_map, hn0]; rfl
  rcases lenAt_cases hr (t.1 : Int) with ⟨e1, _, _⟩ | ⟨s, n, v, k, hs, hy, _, _, e3, hv⟩
  · rw [lenAt, if_pos (Int.natCast_nonneg _), Int.toNat_natCast, getD_of hz] at e1
    omega
  · obtain rfl : s = t.1 := by omega
    have h3 := Option.some.inj (hz.symm.trans hy.len)
    obtain rfl : n0 = n := by omega
    exact ⟨n0, v, k, hy, hn0, e3, Nat.lt_of_lt_of_le hv (Nat.le_trans (Nat.pow_le_pow_right (by decide) h2) (by decide)), h2⟩
theorem NB.cellsN {w : World} {g : Nat} {ns : List Nat} (h : NB w g ns) : Cells w w.heap.size (some ⟨g, 0, none⟩) (nCs ns) := fun _ =>
  ⟨g, 0, rfl, h.lt, fun j u hu => by
    rw [Nat.zero_add, cell_of_row w g j _ _ _ h, ← Array.getElem?_toList]
    exact hu⟩
theorem ptC_at : ∀ {ps : List (Nat × Nat)} {k : Nat} {t : Nat × Nat}, ps[k]? = some t → ((ps.map ptC).flatten)[k * 2]? = some (.int .i64 (t.1 : Int)) ∧ ((ps.map ptC).flatten)[k * 2 + 1]? = some (.int .i64 (t.2 : Int))
  | [], k, t, h => by simp at h
  | p :: ps, 0, t, h => by
    obtain rfl : p = t := by simpa using h
    exact ⟨rfl, rfl⟩
  | p :: ps, k + 1, t, h => by
    have h2 := ptC_at (ps := ps) (k := k) (t := t) (by simpa using h)
    have e : ((p :: ps).map ptC).flatten = ptC p ++ (ps.map ptC).flatten := rfl
    have hl : (ptC p).length = 2 := rfl
    rw [e, List.getElem?_append_right (by omega), List.getElem?_append_right (by omega), hl, show (k + 1) * 2 - 2 = k * 2 by omega, show (k + 1) * 2 + 1 - 2 = k * 2 + 1 by omega]
    exact h2
theorem ptC_len (ps : List (Nat × Nat)) : ((ps.map ptC).flatten).length = ps.length * 2 := by
  induction ps with
  | nil => rfl
  | cons p ps ih =>
    show (ptC p ++ (ps.map ptC).flatten).length = _
    rw [List.length_append, ih, List.length_cons]
    show 2 + _ = _
    omega
theorem own_leP {w : World} {base base' : Nat} {e : TypeId} {size n : Nat} {v : Value} {xs : List Value} (h : w.ownsRow base e size v n xs) (hb : base' ≤ base) : w.ownsRow base' e size v n xs := by
  obtain ⟨h1, h2⟩ := h
  refine ⟨h1, ?_⟩
  rcases h2 with h2 | ⟨g, c, cur, hv, hg, h3⟩
  · exact .inl h2
  · exact .inr ⟨g, c, cur, hv, Nat.le_trans hb hg, h3⟩
theorem partsB_up {zs : List Int} {ps : List (Nat × Nat)} {k : Nat} {t : Nat × Nat} (h : ps[k]? = some t) : partsB zs (ps.take (k + 1)) = partsB zs (ps.take k) ++ partB zs t := by
  rw [List.take_add_one, h, ← partsB_snoc]
  rfl
set_option maxRecDepth 100000 in
set_option maxHeartbeats 4000000 in
theorem rput9_any (A : Option Addr) (l c : Nat) (ls : List Nat) (w : World) (hl : ls.length = l) (h1l : 1 ≤ l) (hm : l ≤ 320) (hv : ∀ x ∈ ls, x ≤ 15) (hb : Cells w w.heap.size A (nCs ls)) :
    Calls Try.prog 10 #[.slice A l c] w fun e w' => ∃ A' c', e = .returned (.slice A' (tabP ls).length c') ∧ OwnB w' w.heap.size 5 (.slice A' (tabP ls).length c') (tabP ls).length (bitBytes (tabP ls)) ∧ Below w.heap.size w w' := by
  have HRP := Lib.hid (rparts_any A l c ls w.heap.size w hl (by omega) hv hb (Nat.le_refl _))
  have hfew := parts_few ls
  have HALL : Hid (∀ t ∈ partsP ls 0, t.1 < 19 ∧ (spanP t.1).1 ≤ t.2 ∧ t.2 ≤ ls.length ∧ t.2 - (spanP t.1).1 < 2 ^ (spanP t.1).2) := fun t ht => part_bd hv ht
  have HRT : Hid (caR (zN (lnP (partsP ls 0))) = true) := by
    obtain ⟨t, ht⟩ := partsP_ne (ls := ls) (by omega)
    exact lnP_right ht (partsP_all hv t ht)
  obtain ⟨ps, hps⟩ : ∃ ps, partsP ls 0 = ps := ⟨_, rfl⟩
  have HT : Hid (tabP ls = bitsOf l 9 ++ lensB (lnP ps) ++ partsB (zN (lnP ps)) ps) := by show _ = _; rw [tabP, hps, hl]
  rw [hps] at HRP HALL HRT hfew
  obtain ⟨n, hn⟩ : ∃ n, ps.length = n := ⟨_, rfl⟩
  have HN := Lib.hid hn
  rw [hn] at HRP
  have hn320 : n ≤ 320 := by omega
  rw [HT.out]
  clear hps hl hv hb hn hfew
  have mk0 : ∀ W, (Instr.makeSlice 22 (.int .i64 19) (.int .i64 19)).run Try.prog W = .ok (.slice (some ⟨W.heap.size, 0, none⟩) 19 19) (W.alloc (.cells (madeCells #[.int .i64 0] 19) 3)) := fun W => make_ints 19 (by omega) W
  go_enter Try.func10, Try.ntmps10
  go_wp2_with (go_at_call 29; refine HRP.out.mono ?_; rintro e w1 ⟨Ap, cp, rfl, hrow, hb1⟩; have HC1 := Lib.hid (cells_of_ownP hrow); have HB1 := Lib.hid hb1; clear hrow hb1)
  obtain ⟨W2, hW2⟩ : ∃ W2, w1.alloc (.cells (madeCells #[.int .i64 0] 19) 3) = W2 := ⟨_, rfl⟩
  have HN2 : Hid (NB W2 w1.heap.size (oftP (ps.take 0))) := by show NB _ _ _; rw [← hW2]; exact wei_made w1 19
  have HB2 : Hid (Below w1.heap.size w1 W2) := by show Below _ _ _; rw [← hW2]; exact (Below.refl _ _).alloc (Nat.le_refl _) _
  rw [hW2]
  clear hW2
  have HCP : Hid (∀ W k t, Below w1.heap.size w1 W → ps[k]? = some t → ∃ b o, Ap = some ⟨b, o, none⟩ ∧ b < w1.heap.size ∧ W.cell? ⟨b, o + k * 2, none⟩ = some (.int .i64 (t.1 : Int)) ∧ W.cell? ⟨b, o + k * 2 + 1, none⟩ = some (.int .i64 (t.2 : Int))) := fun W k t hW hk => by
    have hlen := (List.getElem?_eq_some_iff.1 hk).1
    obtain ⟨b, o, hA, hbB, hc⟩ := HC1.out (by rw [ptC_len]; omega)
    obtain ⟨h1, h2⟩ := ptC_at hk
    exact ⟨b, o, hA, hbB, (hW.cell (p := ⟨b, o + k * 2, none⟩) hbB).trans (hc _ _ h1), (hW.cell (p := ⟨b, o + k * 2 + 1, none⟩) hbB).trans (by rw [Nat.add_assoc]; exact hc _ _ h2)⟩
  go_loopg [5] n (fun gk i wr => ∃ k : Nat, k + gk = n ∧ i = .int .i64 (k : Int) ∧ NB wr w1.heap.size (oftP (ps.take k)) ∧ Below w1.heap.size w1 wr)
  case atStart => exact ⟨0, by omega, rfl, HN2.out, HB2.out⟩
  case round =>
    obtain ⟨k, hk, rfl, hnb, hbel⟩ := hrel
    have HNB := Lib.hid hnb
    have HBEL := Lib.hid hbel
    clear hnb hbel HN2 HB2
    by_cases hkn : k < n
    · obtain ⟨t, ht⟩ : ∃ t, ps[k]? = some t := ⟨_, List.getElem?_eq_getElem (by rw [HN.out]; exact hkn)⟩
      have hm2 := List.mem_of_getElem? ht
      obtain ⟨h19, _, _, _⟩ := HALL.out t hm2
      obtain ⟨b, o, rfl, hbB, c0, _⟩ := HCP.out wr k t HBEL.out ht
      obtain ⟨x, hx⟩ : ∃ x, (oftP (ps.take k))[t.1]? = some x := ⟨_, List.getElem?_eq_getElem (by rw [oftP_len]; exact h19)⟩
      have hx320 : x ≤ 320 := by
        have h1 := oftP_le (ps.take k) x (List.mem_of_getElem? hx)
        rw [List.length_take] at h1
        omega
      have c1 := HNB.out.cell hx
      have f1 : wr.frozen? ⟨w1.heap.size, t.1, none⟩ = false := HNB.out.free
      have HUP : Hid (oftP (ps.take (k + 1)) = (oftP (ps.take k)).set t.1 (x + 1)) := by
        show _ = _
        rw [List.take_add_one, ht]
        have h1 := oftP_snoc (ps.take k) t
        rw [show (oftP (ps.take k)).getD t.1 0 = x by rw [List.getD, hx]; rfl] at h1
        exact h1
      clear ht hm2 hx
      obtain ⟨s, d⟩ := t
      dsimp only at h19 c0 c1 f1 HUP
      go_wp2
      go_roundg (gk - 1)
      case measure => omega
      case rel => exact ⟨k + 1, by omega, by go_num, by rw [HUP.out]; have h := HNB.out.set s (x + 1); push_cast at h; exact h, HBEL.out.setCell (Nat.le_refl _) _⟩
    · obtain rfl : k = n := by omega
      rw [show ps.take k = ps from List.take_of_length_le (by rw [HN.out]; exact Nat.le_refl _)] at HNB
      have HLN : Hid (Calls Try.prog 30 #[.slice (some ⟨w1.heap.size, 0, none⟩) 19 19] wr fun e w' => e = .returned (.slice (some ⟨wr.heap.size, 0, none⟩) 19 19) ∧ NB w' wr.heap.size (lnP ps) ∧ Below wr.heap.size wr w') :=
        refLen_ok (some ⟨w1.heap.size, 0, none⟩) 19 19 (oftP ps) wr.heap.size wr (oftP_len ps) (by omega) HNB.out.cellsN (Nat.le_refl _) (fun y hy => by have := oftP_le ps y hy; have := HN.out; omega)
      have HVL : Hid (∀ W, NB W wr.heap.size (lnP ps) → Calls Try.prog 31 #[.slice (some ⟨wr.heap.size, 0, none⟩) 19 19] W fun e w' => e = .returned (.slice (some ⟨W.heap.size, 0, none⟩) 19 19) ∧ IntBlock w' W.heap.size (caV (zN (lnP ps))) ∧ Below W.heap.size W w') := fun W hW =>
        ref8Values_any (some ⟨wr.heap.size, 0, none⟩) 19 19 (zN (lnP ps)) W.heap.size W (by rw [zN_len, lnP_len]) (by omega) (by have h := hW.cellsN; rw [zN_cs] at h; exact h) (Nat.le_refl _)
      have hwl : IntKind.u32.wrap (l : Int) = (l : Int) := IntWalk.u32_in _ (by omega)
      have HRW := Lib.hid (fun W => refRow_any (l : Int) 9 W (by omega) (by omega) (by omega) (by omega))
      rw [show cnt 9 = 9 from rfl, Int.toNat_natCast] at HRW
      go_wp2_with (first
        | (go_at_call 30; refine HLN.out.mono ?_; rintro e w3 ⟨rfl, hn3, hb3⟩; have HN3 := Lib.hid hn3; have HB3 := Lib.hid hb3; clear hn3 hb3)
        | (go_at_call 31; refine (HVL.out _ HN3.out).mono ?_; rintro e w4 ⟨rfl, hi4, hb4⟩; have HI4 := Lib.hid hi4; have HB4 := Lib.hid hb4; clear hi4 hb4)
        | (go_at_call 32; refine (HRW.out _).mono ?_; rintro e w5 ⟨A5, c5, rfl, ho5, hb5⟩; have HO5 := Lib.hid ho5; have HB5 := Lib.hid hb5; clear ho5 hb5))
      have HG : Hid (w1.heap.size < wr.heap.size ∧ wr.heap.size < w3.heap.size ∧ w3.heap.size < w4.heap.size) := ⟨HNB.out.lt, HN3.out.lt, ib_lt HI4.out⟩
      have HB14 : Hid (Below w1.heap.size w1 w4) := (HBEL.out.trans (HB3.out.mono (by have := HG.out; omega))).trans (HB4.out.mono (by have := HG.out; omega))
      have HLN4 : Hid (∀ (W : World) (j y : Nat), Below w4.heap.size w4 W → (lnP ps)[j]? = some y → W.cell? ⟨wr.heap.size, j, none⟩ = some (.int .i64 (y : Int))) := fun W j y hW hj =>
        NB.cell ((HN3.out.below HB4.out (by have := HG.out; omega)).below hW (by have := HG.out; omega)) hj
      have HVL4 : Hid (∀ (W : World) (j : Nat) (y : Int), Below w4.heap.size w4 W → (caV (zN (lnP ps)))[j]? = some y → W.cell? ⟨w3.heap.size, j, none⟩ = some (.int .i64 y)) := fun W j y hW hj =>
        (hW.cell (p := ⟨w3.heap.size, j, none⟩) (by show w3.heap.size < _; have := HG.out; omega)).trans (ib_cell HI4.out hj)
      have HCP4 : Hid (∀ W k t, Below w4.heap.size w4 W → ps[k]? = some t → ∃ b o, Ap = some ⟨b, o, none⟩ ∧ b < w1.heap.size ∧ W.cell? ⟨b, o + k * 2, none⟩ = some (.int .i64 (t.1 : Int)) ∧ W.cell? ⟨b, o + k * 2 + 1, none⟩ = some (.int .i64 (t.2 : Int))) := fun W k t hW hk =>
        HCP.out W k t (HB14.out.trans (hW.mono (by have := HG.out; omega))) hk
      have HW4 : Hid (Below w.heap.size w w4) := HB1.out.trans (HB14.out.mono HB1.out.size)
      obtain ⟨gl, hgl⟩ : ∃ gl, wr.heap.size = gl := ⟨_, rfl⟩
      obtain ⟨gv, hgv⟩ : ∃ gv, w3.heap.size = gv := ⟨_, rfl⟩
      rw [hgl] at HLN4
      rw [hgv] at HVL4
      rw [hgl, hgv]
      clear HNB HBEL HLN HVL HN3 HB3 HI4 HB4 HG HB14 HCP hgl hgv HC1
      obtain ⟨M1, hM1⟩ : ∃ M1, bitsOf l 9 = M1 := ⟨_, rfl⟩
      have hM1l : M1.length = 9 := by rw [← hM1, bitsOf_length]
      have HO5' : Hid (OwnB w5 w4.heap.size 5 (.slice A5 9 c5) 9 (bitBytes (M1 ++ lensB ((lnP ps).take 0)))) := by
        have h := HO5.out
        rw [hM1] at h
        show OwnB _ _ _ _ _ _
        simpa [lensB] using h
      have HM1 := Lib.hid hM1
      clear hM1 HO5
      go_loopg [8, 9] 19 (fun gk v i wr => ∃ k : Nat, k + gk = 19 ∧ i = .int .i64 (k : Int) ∧ OwnB wr w4.heap.size 5 v (9 + 4 * k) (bitBytes (M1 ++ lensB ((lnP ps).take k))) ∧ Below w4.heap.size w4 wr)
      case atStart => exact ⟨0, by omega, rfl, HO5'.out, HB5.out⟩
      case round =>
        obtain ⟨k2, hk2, rfl, hown, hbel⟩ := hrel
        have HOWN := Lib.hid hown
        have HBEL := Lib.hid hbel
        clear hown hbel HO5' HB5
        obtain ⟨A6, c6, rfl⟩ := own_form HOWN.out
        by_cases hk19 : k2 < 19
        · obtain ⟨y, hy⟩ : ∃ y, (lnP ps)[k2]? = some y := ⟨_, List.getElem?_eq_getElem (by rw [lnP_len]; exact hk19)⟩
          have hy15 : y ≤ 15 := lnP_le hy
          have c0 := HLN4.out wr k2 y HBEL.out hy
          have hwy : IntKind.u32.wrap (y : Int) = (y : Int) := IntWalk.u32_in _ (by omega)
          have HUP : Hid (bitBytes (M1 ++ lensB ((lnP ps).take (k2 + 1))) = bitBytes (M1 ++ lensB ((lnP ps).take k2)) ++ bitBytes (bitsOf y 4)) := by show _ = _; rw [lensB_up hy, ← List.append_assoc, bitBytes_append]
          have HR4 := Lib.hid (fun W => refRow_any (y : Int) 4 W (by omega) (by omega) (by omega) (by omega))
          rw [show cnt 4 = 4 from rfl, Int.toNat_natCast] at HR4
          clear hy
          go_wp2_with (first
            | (go_at_call 32; refine (HR4.out _).mono ?_; rintro e w7 ⟨A7, c7, rfl, ho7, hb7⟩; have HO7 := Lib.hid (Cells.of_own ho7); have HOW7 := Lib.hid (own_keep HOWN.out (Mod.of_below hb7) (fun _ _ h => h)); have HB7 := Lib.hid (HBEL.out.trans (hb7.mono HBEL.out.size)); clear ho7 hb7)
            | (at_builtin; refine wpList_app w7 byteElem3 rfl (.tmp 45) (.tmp 51) rfl w4.heap.size (.slice A6 (9 + 4 * k2) c6) (9 + 4 * k2) (byteCells (bitBytes (M1 ++ lensB ((lnP ps).take k2)))) rfl HOW7.out w7.heap.size A7 4 c7 (byteCells (bitBytes (bitsOf y 4))) rfl (by rw [byteCells_length, bitBytes_length, bitsOf_length]) HO7.out (byteCells_one _) (by unfold maxLen; omega) (by omega) HB7.out.size ?_; intro A8 c8 w8 hA; have HA := Lib.hid hA; clear hA))
          go_roundg (gk - 1)
          case measure => omega
          case rel =>
            refine ⟨k2 + 1, by omega, by go_num, ?_, HA.out.below HB7.out HB7.out.size (own_base HOW7.out)⟩
            have h := HA.out.own
            rw [← byteCells_append, ← HUP.out] at h
            exact h
        · obtain rfl : k2 = 19 := by omega
          rw [show (lnP ps).take 19 = lnP ps from List.take_of_length_le (by rw [lnP_len]; exact Nat.le_refl _)] at HOWN
          obtain ⟨M2, hM2⟩ : ∃ M2, M1 ++ lensB (lnP ps) = M2 := ⟨_, rfl⟩
          have hM2l : M2.length = 85 := by rw [← hM2, List.length_append, lensB_len, lnP_len, hM1l]
          rw [hM2] at HOWN
          have HM2 := Lib.hid hM2
          have HOWN' : Hid (OwnB wr w4.heap.size 5 (.slice A6 (M2 ++ partsB (zN (lnP ps)) (ps.take 0)).length c6) (M2 ++ partsB (zN (lnP ps)) (ps.take 0)).length (bitBytes (M2 ++ partsB (zN (lnP ps)) (ps.take 0)))) := by
            show OwnB _ _ _ _ _ _
            have e : M2 ++ partsB (zN (lnP ps)) (ps.take 0) = M2 := by simp [partsB]
            rw [e, hM2l]
            exact HOWN.out
          have hv0 : (9 : Nat) + 4 * 19 = (M2 ++ partsB (zN (lnP ps)) (ps.take 0)).length := by rw [show M2 ++ partsB (zN (lnP ps)) (ps.take 0) = M2 by simp [partsB], hM2l]
          rw [hv0]
          clear hM2 HOWN hv0
          go_wp2
          obtain ⟨wq, hwq⟩ : ∃ wq, wq = wr := ⟨_, rfl⟩
          subst hwq
          go_loopg [8, 10] k (fun gk v i wr => ∃ k2 : Nat, k2 + gk = k ∧ i = .int .i64 (k2 : Int) ∧ OwnB wr w4.heap.size 5 v (M2 ++ partsB (zN (lnP ps)) (ps.take k2)).length (bitBytes (M2 ++ partsB (zN (lnP ps)) (ps.take k2))) ∧ Below w4.heap.size w4 wr)
          case atStart => exact ⟨0, by omega, rfl, HOWN'.out, HBEL.out⟩
          case round =>
            obtain ⟨k3, hk3, rfl, hown, hbel⟩ := hrel
            have HOWN := Lib.hid hown
            have HBL := Lib.hid hbel
            clear hown hbel HOWN' HBEL
            obtain ⟨A9, c9, rfl⟩ := own_form HOWN.out
            by_cases hk3k : k3 < k
            · obtain ⟨t, ht⟩ : ∃ t, ps[k3]? = some t := ⟨_, List.getElem?_eq_getElem (by rw [HN.out]; exact hk3k)⟩
              have hm3 := List.mem_of_getElem? ht
              obtain ⟨h19, hsp1, hsp2, hsp3⟩ := HALL.out t hm3
              obtain ⟨y, v, kk, hy, hyl, hsy, hv, hy15⟩ := lnP_sym hm3 h19
              have HVV : Hid ((caV (zN (lnP ps)))[t.1]? = some (v : Int)) := hy.val
              have HYL := Lib.hid hyl
              have hpb := partsB_len HRT.out (ps.take k3)
              rw [List.length_take] at hpb
              have HUP : Hid (M2 ++ partsB (zN (lnP ps)) (ps.take (k3 + 1)) = (M2 ++ partsB (zN (lnP ps)) (ps.take k3)) ++ (codeB v y ++ bitsOf (t.2 - (spanP t.1).1) (spanP t.1).2)) := by
                show _ = _
                rw [partsB_up ht, partB, hsy, List.append_assoc]
              have HCC : Hid (∀ W, Below w4.heap.size w4 W → ∃ b o, Ap = some ⟨b, o, none⟩ ∧ W.cell? ⟨b, o + k3 * 2, none⟩ = some (.int .i64 (t.1 : Int)) ∧ W.cell? ⟨b, o + k3 * 2 + 1, none⟩ = some (.int .i64 (t.2 : Int))) := fun W hW => by
                obtain ⟨b, o, h1, _, h2, h3⟩ := HCP4.out W k3 t hW ht
                exact ⟨b, o, h1, h2, h3⟩
              have hM3l : (M2 ++ partsB (zN (lnP ps)) (ps.take k3)).length ≤ 10000 := by rw [List.length_append]; omega
              obtain ⟨M3, hM3⟩ : ∃ M3, M2 ++ partsB (zN (lnP ps)) (ps.take k3) = M3 := ⟨_, rfl⟩
              rw [hM3] at HUP HOWN hM3l ⊢
              have hspl := spanP_le t.1
              obtain ⟨s, d⟩ := t
              dsimp only at h19 hsp1 hsp2 hsp3 HVV HYL HUP HCC hspl
              have HEX := Lib.hid (fun W => rextra_any s W)
              obtain ⟨⟨sa, sb⟩, hab⟩ : ∃ ab, spanP s = ab := ⟨_, rfl⟩
              rw [hab] at hsp1 hsp3 HUP hspl HEX
              dsimp only at hsp1 hsp3 HUP hspl HEX
              obtain ⟨dm, hdm⟩ : ∃ dm, d - sa = dm := ⟨_, rfl⟩
              rw [hdm] at HUP
              have hdm2 : (d : Int) - (sa : Int) = (dm : Int) := by omega
              have hdl : dm ≤ 320 := by
                have h7 : 2 ^ sb ≤ 128 := Nat.pow_le_pow_right (n := 2) (by decide) hspl.2.2
                omega
              have hwd : IntKind.u32.wrap (dm : Int) = (dm : Int) := IntWalk.u32_in _ (by omega)
              obtain ⟨m3, hm3'⟩ : ∃ m3, M3.length = m3 := ⟨_, rfl⟩
              have HM3L := Lib.hid hm3'
              rw [hm3'] at HOWN hM3l ⊢
              have HCL : Hid ((codeB v y).length = y) := codeB_len v y
              have HLEN : Hid ((M2 ++ partsB (zN (lnP ps)) (ps.take (k3 + 1))).length = m3 + y + sb) := by
                show _ = _
                rw [HUP.out, List.length_append, List.length_append, HCL.out, bitsOf_length, HM3L.out, Nat.add_assoc]
              have HBY : Hid (byteCells (bitBytes (M2 ++ partsB (zN (lnP ps)) (ps.take (k3 + 1)))) = byteCells (bitBytes M3) ++ byteCells (bitBytes (codeB v y)) ++ byteCells (bitBytes (bitsOf dm sb))) := by
                show _ = _
                rw [HUP.out, bitBytes_append, bitBytes_append, byteCells_append, byteCells_append, List.append_assoc]
              have HREF := Lib.hid (fun W => refBits_any v y W hv hy15)
              have HRWD := Lib.hid (fun W => refRow_any (dm : Int) (sb : Int) W (by omega) (by omega) (by omega) (by omega))
              rw [cnt_nat (k := sb) (by omega), Int.toNat_natCast] at HRWD
              obtain ⟨b, o, rfl, c0, c1⟩ := HCC.out wr HBL.out
              have HP3 : Hid (∀ W, Below w4.heap.size w4 W → W.cell? ⟨gl, s, none⟩ = some (.int .i64 (y : Int)) ∧ W.cell? ⟨gv, s, none⟩ = some (.int .i64 (v : Int))) := fun W hW => ⟨HLN4.out W s y hW HYL.out, HVL4.out W s v hW HVV.out⟩
              have HC1' : Hid (∀ W, Below w4.heap.size w4 W → W.cell? ⟨b, o + k3 * 2 + 1, none⟩ = some (.int .i64 (d : Int))) := fun W hW => by
                obtain ⟨b', o', h1, _, h3⟩ := HCC.out W hW
                cases h1
                exact h3
              have S5 := HP3.out wr HBL.out
              have i19 : (s : Int) < 19 := by omega
              have i0 : (0 : Int) ≤ (s : Int) := by omega
              clear ht hm3 hy hyl hsy hM3 hm3' hdm hab hpb HCC
              go_upto_region 18 with fail
              go_region_held3 (fun W => W.cell? ⟨gl, s, none⟩ = some (.int .i64 (y : Int)) ∧ W.cell? ⟨gv, s, none⟩ = some (.int .i64 (v : Int))) (first | exact S5 | exact S6 | exact S7)
                ((first
                | (go_at_call 33; refine (HREF.out _).mono ?_; rintro e w6 ⟨A6, c6, rfl, hown, hbel⟩; have HO6 := Lib.hid (Cells.of_own hown); have HOW6 := Lib.hid (own_keep HOWN.out.drew (Mod.of_below hbel) (fun _ _ h => h)); have HB6 := Lib.hid (HBL.out.drew.trans (hbel.mono HBL.out.size)); clear hown hbel; have S6 := HP3.out _ HB6.out)
                | (refine step_app _ byteElem3 (by rfl) (.tmp 64) (.tmp 73) (by rfl) w4.heap.size (.slice A9 m3 c9) m3 (byteCells (bitBytes M3)) (by rfl) HOW6.out w6.heap.size A6 y c6 (byteCells (bitBytes (codeB v y))) (by rfl) (by rw [byteCells_length, bitBytes_length, HCL.out, Nat.mul_one]) HO6.out (byteCells_one _) (by unfold maxLen; omega) (by omega) HB6.out.size ?_; intro A7 c7 w7 hA; have HA := Lib.hid hA; clear hA; have HB7 := Lib.hid (HA.out.below HB6.out HB6.out.size (own_base HOW6.out)); have S7 := HP3.out _ HB7.out)))
              have c1' := HC1'.out w7 HB7.out
              go_wp2_with (first
                | (go_at_call 34; refine (HEX.out _).mono ?_; rintro e w' ⟨rfl, rfl⟩)
                | (go_at_call 32; refine (HRWD.out _).mono ?_; rintro e w8 ⟨A8, c8, rfl, ho8, hb8⟩; have HO8 := Lib.hid (Cells.of_own ho8); have HOW8 := Lib.hid (own_keep HA.out.own (Mod.of_below hb8) (fun _ _ h => h)); have HB8 := Lib.hid (HB7.out.trans (hb8.mono HB7.out.size)); clear ho8 hb8)
                | (at_builtin; refine wpList_app w8 byteElem3 rfl (.tmp 80) (.tmp 90) rfl w4.heap.size (.slice A7 (m3 + y) c7) (m3 + y) (byteCells (bitBytes M3) ++ byteCells (bitBytes (codeB v y))) rfl HOW8.out w8.heap.size A8 sb c8 (byteCells (bitBytes (bitsOf dm sb))) rfl (by rw [byteCells_length, bitBytes_length, bitsOf_length, Nat.mul_one]) HO8.out (byteCells_one _) (by unfold maxLen; omega) (by omega) HB8.out.size ?_; intro A10 c10 w10 hA10; have HA10 := Lib.hid hA10; clear hA10))
              go_roundg (gk - 1)
              case measure => omega
              case rel =>
                refine ⟨k3 + 1, by omega, by go_num, ?_, HA10.out.below HB8.out HB8.out.size (own_base HOW8.out)⟩
                have h := HA10.out.own
                rw [HLEN.out]
                unfold OwnB
                rw [HBY.out]
                exact h
            · obtain rfl : k3 = k := by omega
              rw [show ps.take k3 = ps from List.take_of_length_le (by rw [HN.out]; exact Nat.le_refl _)] at HOWN ⊢
              have HE : Hid (M2 ++ partsB (zN (lnP ps)) ps = bitsOf l 9 ++ lensB (lnP ps) ++ partsB (zN (lnP ps)) ps) := by show _ = _; rw [← HM2.out, ← HM1.out]
              have HSZ := Lib.hid HW4.out.size
              go_wp2
              go_ret
              rw [← HE.out]
              exact ⟨A9, c9, rfl, own_leP HOWN.out HSZ.out, HW4.out.trans (HBL.out.mono HSZ.out)⟩
end Go.Proofs.Ytbpgaaecifnohaa
/- Layer 8, plainly: the symbol that bits begin with. -/
namespace Go.Proofs.Ytbpgaaecifnohaa
open Go.RowKit BitsP

/-- Bits as a number, the highest one first. -/
def hiN (L : List Bool) : Nat := num L.reverse
theorem hiN_snoc (L : List Bool) (b : Bool) : hiN (L ++ [b]) = bit b + 2 * hiN L := by
  unfold hiN
  rw [List.reverse_append]
  rfl
theorem hiN_lt (L : List Bool) : hiN L < 2 ^ L.length := by
  have h := num_lt L.reverse
  rw [List.length_reverse, p2_pow] at h
  exact h
theorem hiN_code {v n : Nat} (h : v < 2 ^ n) : hiN (codeB v n) = v := by
  unfold hiN codeB
  rw [List.reverse_reverse, num_bitsOf, p2_pow, Nat.mod_eq_of_lt h]
theorem hiN_up {U : List Bool} {n : Nat} {b : Bool} (hb : U[n]? = some b) : hiN (U.take (n + 1)) = bit b + 2 * hiN (U.take n) := by
  rw [take_snoc' hb, hiN_snoc]
theorem hiN_take {U : List Bool} {n : Nat} : ∀ d, n + d ≤ U.length → hiN (U.take (n + d)) / 2 ^ d = hiN (U.take n)
  | 0, _ => by rw [Nat.add_zero, Nat.pow_zero, Nat.div_one]
  | d + 1, h => by
    obtain ⟨b, hb⟩ : ∃ b, U[n + d]? = some b := ⟨_, List.getElem?_eq_getElem (by omega)⟩
    have h2 : (bit b + 2 * hiN (U.take (n + d))) / 2 = hiN (U.take (n + d)) := by have := bit_le b; omega
    rw [show n + (d + 1) = n + d + 1 by omega, hiN_up hb, Nat.pow_succ, Nat.mul_comm (2 ^ d) 2, ← Nat.div_div_eq_div_mul, h2, hiN_take d (by omega)]
theorem whole_pre (zs : List Int) (n : Nat) : ∀ d, ∃ R, whole zs (n + d) = whole zs n ++ R ∧ ∀ s ∈ R, ∃ m : Nat, zs[s]? = some (m : Int) ∧ n < m
  | 0 => ⟨[], by simp, by simp⟩
  | d + 1 => by
    obtain ⟨R, h, hR⟩ := whole_pre zs n d
    refine ⟨R ++ ixs zs (n + d + 1) zs.length, by rw [show n + (d + 1) = n + d + 1 by omega, whole, h, List.append_assoc], fun s hs => ?_⟩
    rcases List.mem_append.1 hs with h1 | h1
    · exact hR s h1
    · simp only [ixs, List.mem_filter, decide_eq_true_eq] at h1
      exact ⟨n + d + 1, h1.2, by omega⟩
/-- The symbols of a length up to m stand ahead. -/
theorem Sym.upto {zs : List Int} {s n v k : Nat} (h : Sym zs s n v k) {m : Nat} (hm : m ≤ 15) : k < (whole zs m).length ↔ n ≤ m := by
  obtain ⟨R, e, hR⟩ := whole_pre zs m (15 - m)
  rw [show m + (15 - m) = 15 by omega] at e
  have hk : (whole zs 15)[k]? = some s := h.at_
  rw [e] at hk
  constructor
  · intro hl
    rw [List.getElem?_append_left hl] at hk
    obtain ⟨n', h1, _, h3⟩ := whole_mem (List.mem_of_getElem? hk)
    have := h.len.symm.trans h1
    injection this with this
    omega
  · intro hn
    by_cases hl : k < (whole zs m).length
    · exact hl
    · rw [List.getElem?_append_right (by omega)] at hk
      obtain ⟨n', h1, h2⟩ := hR s (List.mem_of_getElem? hk)
      have := h.len.symm.trans h1
      injection this with this
      omega
theorem Sym.one_val {zs : List Int} {s n v k s' n' v' k' : Nat} (h : Sym zs s n v k) (h' : Sym zs s' n' v' k') (e : s = s') : n = n' ∧ v = v' := by
  subst e
  have h1 := h.len.symm.trans h'.len
  have h2 := h.val.symm.trans h'.val
  injection h1 with h1
  injection h2 with h2
  omega
theorem Sym.at_le {zs : List Int} {s n v k : Nat} (h : Sym zs s n v k) {m : Nat} (hm : isMax zs (m : Int)) : n ≤ m := by
  have := hm.1 _ (List.mem_of_getElem? h.len)
  omega
/-- No code of n bits is what bits begin with. -/
def noHit (zs : List Int) (x n : Nat) : Prop := ∀ s v k, Sym zs s n v k → x ≠ v
/-- What Take answers where bits are left, of codes up to m bits: a symbol, or why there is none, and how far it goes on. -/
def TakeR (zs : List Int) (m : Nat) (U : List Bool) (s e : Int) (on : Nat) : Prop :=
  (∃ t v k : Nat, Sym zs t on v k ∧ on ≤ U.length ∧ hiN (U.take on) = v ∧ s = (t : Int) ∧ e = 0) ∨
  (s = 0 ∧ on = 0 ∧ (∀ n, 1 ≤ n → n ≤ m → n ≤ U.length → noHit zs (hiN (U.take n)) n) ∧ e = if U.length < m then 2 else 13)
theorem take_back {zs : List Int} {m : Nat} (hm : isMax zs (m : Int)) (hr : caR zs = true) {U R : List Bool} {t n v k : Nat} (hy : Sym zs t n v k) (hU : U = codeB v n ++ R) {s e : Int} {on : Nat} (h : TakeR zs m U s e on) : s = (t : Int) ∧ e = 0 ∧ on = n := by
  have hl : n ≤ U.length := by rw [hU, List.length_append, codeB_len]; omega
  have ht : U.take n = codeB v n := by rw [hU, List.take_append_of_le_length (by rw [codeB_len]; omega), List.take_of_length_le (by rw [codeB_len]; omega)]
  have hv : hiN (U.take n) = v := by rw [ht, hiN_code (hy.lt hr)]
  rcases h with ⟨t', v', k', hy', hl', hv', rfl, rfl⟩ | ⟨_, _, hno, _⟩
  · have hst : t' = t := by
      rcases Nat.le_total on n with hle | hle
      · refine hy'.apart hy hle ?_
        have := hiN_take (U := U) (n := on) (n - on) (by omega)
        rw [show on + (n - on) = n by omega, hv, hv'] at this
        exact this
      · refine (hy.apart hy' hle ?_).symm
        have := hiN_take (U := U) (n := n) (on - n) (by omega)
        rw [show n + (on - n) = on by omega, hv, hv'] at this
        exact this
    subst hst
    exact ⟨rfl, rfl, (hy'.one_val hy rfl).1⟩
  · exact absurd hv (hno n hy.one (hy.at_le hm) hl t v k hy)
theorem cover {zs : List Int} {x : Nat} (j : Nat) (hj : j ≤ (ordL zs).length) (h : x < osum zs ((ordL zs).take j)) : ∃ s n v k, Sym zs s n v k ∧ v * 2 ^ (15 - n) ≤ x ∧ x < (v + 1) * 2 ^ (15 - n) := by
  induction j with
  | zero => exact absurd h (by simp [osum])
  | succ j ih =>
    rcases Nat.lt_or_ge x (osum zs ((ordL zs).take j)) with h1 | h1
    · exact ih (Nat.le_of_succ_le hj) h1
    · obtain ⟨s, hs⟩ : ∃ s, (ordL zs)[j]? = some s := ⟨_, List.getElem?_eq_getElem hj⟩
      obtain ⟨n, v, hy⟩ := sym_at hs
      refine ⟨s, n, v, j, hy, by rw [hy.sum]; exact h1, ?_⟩
      rw [Nat.succ_mul, hy.sum, ← osum_step hy.at_ hy.len hy.one]
      exact h
/-- Of codes that leave nothing over any fifteen bits begin with one. -/
theorem take_full {zs : List Int} {m : Nat} (hm : isMax zs (m : Int)) (hr : caR zs = true) (hw : wsum zs = 32768) {U : List Bool} (hU : 15 ≤ U.length) {s e : Int} {on : Nat} (h : TakeR zs m U s e on) : e = 0 := by
  rcases h with ⟨t', v', k', hy', hl', hv', rfl, rfl⟩ | ⟨_, _, hno, _⟩
  · rfl
  · exfalso
    have hx := hiN_lt (U.take 15)
    rw [List.length_take, Nat.min_eq_left hU, show (2 : Nat) ^ 15 = 32768 by decide] at hx
    obtain ⟨t, n, v, k, hy, h1, h2⟩ := cover (zs := zs) (x := hiN (U.take 15)) _ (Nat.le_refl _) (by rw [List.take_length, osum_all (caR_len hr).2, hw]; exact hx)
    have hf := hy.few
    refine hno n hy.one (hy.at_le hm) (by omega) t v k hy ?_
    have h3 := hiN_take (U := U) (n := n) (15 - n) (by omega)
    rw [show n + (15 - n) = 15 by omega] at h3
    rw [← h3]
    exact Nat.div_eq_of_lt_le h1 h2
/-- Behind a code that is less no shorter place's is the one. -/
theorem noHit_less {zs : List Int} {n s v k x : Nat} (h : Sym zs s n v k) (hx : v < x) (hab : ∀ j s' v', k < j → Sym zs s' n v' j → x ≠ v') : noHit zs x n := by
  intro s' v' j hy e
  rcases Nat.lt_trichotomy j k with hj | hj | hj
  · have hp := hy.place h hj
    have h3 := Nat.le_of_mul_le_mul_right hp (Nat.two_pow_pos (15 - n))
    omega
  · subst hj
    have := h.at_.symm.trans hy.at_
    injection this with this
    have := (h.one_val hy this).2
    omega
  · exact hab j s' v' hj hy e
end Go.Proofs.Ytbpgaaecifnohaa
