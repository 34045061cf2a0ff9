/- Layer 11: the reference's Expand. -/
import Derived.Test.YtdlikfefndogbaaTxAll
namespace Go.Proofs.Ytdlikfefndogbaa
open Go.RowKit Go.Shelf

set_option maxRecDepth 100000 in
set_option maxHeartbeats 1000000 in
theorem rExpand_any (A : Option Addr) (l c : Nat) (L : List Ti) (most : Int) (w : World) (hl : L.length = l) (hm : l ≤ 100000) (hm1 : -9223372036854775808 ≤ most) (hm2 : most ≤ 9223372036854775807) (hc : Cells w w.heap.size A (L.map tiC).flatten) :
    Calls Try.prog 14 #[.slice A l c, .int .i64 most] w fun e w' => ∃ A' c', e = .returned (.tuple #[.slice A' (expE most L []).2.length c', .int .i64 (expE most L []).1]) ∧ Bytes w' w'.heap.size A' (expE most L []).2 ∧ Below w.heap.size w w' := by
  have HL := Lib.hid hl
  have HC := Lib.hid hc
  clear hl hc
  go_enter Try.func14, Try.ntmps14
  go_wp2
  go_loopg [6, 7] l (fun gk s6 s11 wr => ∃ (k m : Nat) (out : List UInt8) (Ak : Option Addr) (ck : Nat), k + gk = l ∧ s6 = .slice Ak m ck ∧ s11 = .int .i64 (k : Int) ∧ out.length = m ∧ expE most L [] = expE most (L.drop k) out ∧ (m = 0 ∨ (m : Int) ≤ most) ∧ m ≤ 258 * k ∧ OwnB wr w.heap.size 5 (.slice Ak m ck) m out ∧ Below w.heap.size w wr)
  case atStart => exact ⟨0, 0, [], none, 0, by omega, rfl, rfl, rfl, rfl, .inl rfl, by omega, World.ownsRow_nil _ _ _ _, Below.refl _ _⟩
  case round =>
    obtain ⟨k, m, out, Ak, ck, hk, rfl, rfl, hlen, hex, hmost, hmk, hown, hbl⟩ := hrel
    obtain ⟨WR, hWR⟩ : ∃ WR, WR = wr := ⟨_, rfl⟩
    subst hWR
    have HLEN := Lib.hid hlen
    have HEX := Lib.hid hex
    have HOWN := Lib.hid hown
    have HBL := Lib.hid hbl
    clear hlen hex hown hbl
    by_cases h : k < l
    · have hkl : k < L.length := by rw [HL.out]; exact h
      obtain ⟨t, ht⟩ : ∃ t, L[k]? = some t := ⟨_, List.getElem?_eq_getElem hkl⟩
      have hdrop : L.drop k = t :: L.drop (k + 1) := by
        rw [List.drop_eq_getElem_cons hkl]
        rw [List.getElem?_eq_getElem hkl] at ht
        injection ht with ht
        rw [ht]
      have HST : Hid (expE most L [] = if okT t = false ∨ (m : Int) < t.2.2 then (3, []) else if most - (m : Int) < szT t then (5, []) else expE most (L.drop (k + 1)) (putT t out)) := by
        show _ = _
        rw [HEX.out, hdrop, expE, HLEN.out]
      have HPL := Lib.hid (fun hok => putT_len (t := t) out hok)
      have HRI := Lib.hid (fun Z => rRight_any t Z)
      have hs1 := szT_pos t
      have HSL : Hid (okT t = true → szT t ≤ 258) := fun h => szT_le h
      have hwr : IntKind.i64.wrap (most - (m : Int)) = most - (m : Int) := IntWalk.i64_in _ (by omega)
      have hlt3 : k * 3 + 0 < (L.map tiC).flatten.length := (List.getElem?_eq_some_iff.1 (code_at (tiC_len L) ht (show (tiC t)[0]? = some (.int .u8 (t.1.toNat : Int)) from rfl))).1
      obtain ⟨b, o, rfl, _, hcc⟩ := HC.out (by omega)
      have x0 : WR.cell? ⟨b, o + k * 3, none⟩ = some (.int .u8 (t.1.toNat : Int)) := (HBL.out.cell (p := ⟨b, o + k * 3, none⟩) (by assumption)).trans (hcc (k * 3 + 0) _ (code_at (tiC_len L) ht rfl))
      have x1 : WR.cell? ⟨b, o + k * 3 + 1, none⟩ = some (.int .i64 t.2.1) := (HBL.out.cell (p := ⟨b, o + k * 3 + 1, none⟩) (by assumption)).trans (hcc (k * 3 + 1) _ (code_at (tiC_len L) ht rfl))
      have x2 : WR.cell? ⟨b, o + k * 3 + 2, none⟩ = some (.int .i64 t.2.2) := (HBL.out.cell (p := ⟨b, o + k * 3 + 2, none⟩) (by assumption)).trans (hcc (k * 3 + 2) _ (code_at (tiC_len L) ht rfl))
      obtain ⟨W6, hW6⟩ : ∃ W6, WR.alloc (.cells #[.int .u8 (t.1.toNat : Int), .int .i64 t.2.1, .int .i64 t.2.2] 36) = W6 := ⟨_, rfl⟩
      have HX6 : Hid (W6.heap[WR.heap.size]? = some (.cells #[.int .u8 (t.1.toNat : Int), .int .i64 t.2.1, .int .i64 t.2.2] 36)) := by show _ = _; rw [← hW6]; exact heap_alloc_new WR _
      have HB6 : Hid (Below WR.heap.size WR W6) := by show Below _ _ _; rw [← hW6]; exact (Below.refl _ WR).alloc (Nat.le_refl _) _
      have HZ6 : Hid (W6.heap.size = WR.heap.size + 1) := by show _ = _; rw [← hW6]; simp
      have z0 := cell_of_row W6 WR.heap.size 0 _ _ _ HX6.out
      have z1 := cell_of_row W6 WR.heap.size 1 _ _ _ HX6.out
      have z2 := cell_of_row W6 WR.heap.size 2 _ _ _ HX6.out
      have HUP : Hid (∀ Z : World, Below W6.heap.size W6 Z → Z.heap[WR.heap.size]? = some (.cells #[.int .u8 (t.1.toNat : Int), .int .i64 t.2.1, .int .i64 t.2.2] 36)) := fun Z hZ => (hZ.block _ (by have := HZ6.out; omega)).trans HX6.out
      have HBW : Hid (∀ Z : World, Below W6.heap.size W6 Z → Below WR.heap.size WR Z) := fun Z hZ => HB6.out.trans (hZ.mono HB6.out.size)
      obtain ⟨tb, tn, td⟩ := t
      simp only [tiV] at HRI x0 x1 x2 hW6 z0 z1 z2 HX6 HUP
      simp only at HST
      clear hcc hdrop ht hlt3 hkl
      by_cases hok : okT (tb, tn, td) = true
      · have HOK := Lib.hid hok
        rw [hok] at HRI HST
        by_cases hd : (m : Int) < td
        · have t1 : decide ((m : Int) < td) = true := decide_eq_true hd
          have HR : Hid (expE most L [] = (3, [])) := by show _ = _; rw [HST.out, if_pos (.inr hd)]
          clear hok HST hd
          go_wp2_with (go_at_call 17; refine (HRI.out _).mono ?_; rintro e w5 ⟨rfl, hb5⟩; have hx5 := HUP.out w5 hb5; have y0 := cell_of_row w5 WR.heap.size 0 _ _ _ hx5; have y1 := cell_of_row w5 WR.heap.size 1 _ _ _ hx5; have y2 := cell_of_row w5 WR.heap.size 2 _ _ _ hx5; have HB5 := Lib.hid hb5; clear hx5 hb5)
          go_ret2
          exact ⟨none, 0, by rw [HR.out]; rfl, by rw [HR.out]; exact Cells.nil _ _ _, HBL.out.trans ((HBW.out _ HB5.out).mono HBL.out.size)⟩
        · have t1 : decide ((m : Int) < td) = false := decide_eq_false hd
          have HD : Hid (td ≤ (m : Int)) := by show _ ≤ _; omega
          have HPL2 : Hid (((putT (tb, tn, td) out).length : Int) = (m : Int) + szT (tb, tn, td)) := by show _ = _; rw [HPL.out hok, HLEN.out]
          by_cases hs : most - (m : Int) < szT (tb, tn, td)
          · have HR : Hid (expE most L [] = (5, [])) := by show _ = _; rw [HST.out, if_neg (by simp; omega), if_pos hs]
            rcases okT_cases hok with ⟨e1, e2⟩ | ⟨e1, e2, e3, e4, e5⟩
            · dsimp only at e1 e2
              have hsz : szT (tb, tn, td) = 1 := by unfold szT; simp only; rw [if_pos (by omega)]
              rw [hsz] at hs
              have u0 : (tn == 0) = true := by simp [e1]
              clear hsz HPL2 HPL e1 e2
              by_cases hmm : most < (m : Int)
              · have t3 : decide (most < (m : Int)) = true := decide_eq_true hmm
                clear hok HST hd hs hmm
                go_wp2_with (go_at_call 17; refine (HRI.out _).mono ?_; rintro e w5 ⟨rfl, hb5⟩; have hx5 := HUP.out w5 hb5; have y0 := cell_of_row w5 WR.heap.size 0 _ _ _ hx5; have y1 := cell_of_row w5 WR.heap.size 1 _ _ _ hx5; have y2 := cell_of_row w5 WR.heap.size 2 _ _ _ hx5; have HX5 := Lib.hid hx5; have HB5 := Lib.hid hb5; have HOW5 := Lib.hid (own_keep HOWN.out (Mod.of_below (HBW.out _ hb5)) (fun _ _ h => h)); have HS5 := Lib.hid (HBW.out _ hb5).size; clear hx5 hb5)
                go_ret2
                exact ⟨none, 0, by rw [HR.out]; rfl, by rw [HR.out]; exact Cells.nil _ _ _, HBL.out.trans ((HBW.out _ HB5.out).mono HBL.out.size)⟩
              · have t3 : decide (most < (m : Int)) = false := decide_eq_false hmm
                have t4 : decide (most - (m : Int) < 1) = true := decide_eq_true (by omega)
                clear hok HST hd hs hmm
                go_wp2_with (go_at_call 17; refine (HRI.out _).mono ?_; rintro e w5 ⟨rfl, hb5⟩; have hx5 := HUP.out w5 hb5; have y0 := cell_of_row w5 WR.heap.size 0 _ _ _ hx5; have y1 := cell_of_row w5 WR.heap.size 1 _ _ _ hx5; have y2 := cell_of_row w5 WR.heap.size 2 _ _ _ hx5; have HX5 := Lib.hid hx5; have HB5 := Lib.hid hb5; have HOW5 := Lib.hid (own_keep HOWN.out (Mod.of_below (HBW.out _ hb5)) (fun _ _ h => h)); have HS5 := Lib.hid (HBW.out _ hb5).size; clear hx5 hb5)
                go_ret2
                exact ⟨none, 0, by rw [HR.out]; rfl, by rw [HR.out]; exact Cells.nil _ _ _, HBL.out.trans ((HBW.out _ HB5.out).mono HBL.out.size)⟩
            · dsimp only at e1 e2 e3 e4 e5
              clear e5
              have hsz : szT (tb, tn, td) = tn := by unfold szT; simp only; rw [if_neg (by omega)]
              rw [hsz] at hs
              have u0 : (tn == 0) = false := by simp; omega
              clear hsz HPL2 HPL
              by_cases hmm : most < (m : Int)
              · have t3 : decide (most < (m : Int)) = true := decide_eq_true hmm
                clear hok HST hd hs hmm
                go_wp2_with (go_at_call 17; refine (HRI.out _).mono ?_; rintro e w5 ⟨rfl, hb5⟩; have hx5 := HUP.out w5 hb5; have y0 := cell_of_row w5 WR.heap.size 0 _ _ _ hx5; have y1 := cell_of_row w5 WR.heap.size 1 _ _ _ hx5; have y2 := cell_of_row w5 WR.heap.size 2 _ _ _ hx5; have HX5 := Lib.hid hx5; have HB5 := Lib.hid hb5; have HOW5 := Lib.hid (own_keep HOWN.out (Mod.of_below (HBW.out _ hb5)) (fun _ _ h => h)); have HS5 := Lib.hid (HBW.out _ hb5).size; clear hx5 hb5)
                go_ret2
                exact ⟨none, 0, by rw [HR.out]; rfl, by rw [HR.out]; exact Cells.nil _ _ _, HBL.out.trans ((HBW.out _ HB5.out).mono HBL.out.size)⟩
              · have t3 : decide (most < (m : Int)) = false := decide_eq_false hmm
                have t4 : decide (most - (m : Int) < tn) = true := decide_eq_true (by omega)
                clear hok HST hd hs hmm
                go_wp2_with (go_at_call 17; refine (HRI.out _).mono ?_; rintro e w5 ⟨rfl, hb5⟩; have hx5 := HUP.out w5 hb5; have y0 := cell_of_row w5 WR.heap.size 0 _ _ _ hx5; have y1 := cell_of_row w5 WR.heap.size 1 _ _ _ hx5; have y2 := cell_of_row w5 WR.heap.size 2 _ _ _ hx5; have HX5 := Lib.hid hx5; have HB5 := Lib.hid hb5; have HOW5 := Lib.hid (own_keep HOWN.out (Mod.of_below (HBW.out _ hb5)) (fun _ _ h => h)); have HS5 := Lib.hid (HBW.out _ hb5).size; clear hx5 hb5)
                go_ret2
                exact ⟨none, 0, by rw [HR.out]; rfl, by rw [HR.out]; exact Cells.nil _ _ _, HBL.out.trans ((HBW.out _ HB5.out).mono HBL.out.size)⟩
          · have HR : Hid (expE most L [] = expE most (L.drop (k + 1)) (putT (tb, tn, td) out)) := by show _ = _; rw [HST.out, if_neg (by simp; omega), if_neg hs]
            obtain ⟨G, hG⟩ : ∃ G, gk = G := ⟨_, rfl⟩
            rw [hG] at hk
            rcases okT_cases hok with ⟨e1, e2⟩ | ⟨e1, e2, e3, e4, e5⟩
            · dsimp only at e1 e2
              have hsz : szT (tb, tn, td) = 1 := by unfold szT; simp only; rw [if_pos (by omega)]
              rw [hsz] at hs
              have u0 : (tn == 0) = true := by simp [e1]
              have u1 : decide (0 < tn) = false := decide_eq_false (by omega)
              have HP : Hid (putT (tb, tn, td) out = out ++ [tb]) := if_pos e1
              have t3 : decide (most < (m : Int)) = false := decide_eq_false (by omega)
              have t4 : decide (most - (m : Int) < 1) = false := decide_eq_false (by omega)
              have hsb : (m : Int) + 1 ≤ most := by omega
              clear hok HST hd hs hsz HPL2 HPL e1 e2
              go_wp2_with (first
                | (go_at_call 17; refine (HRI.out _).mono ?_; rintro e w5 ⟨rfl, hb5⟩; have hx5 := HUP.out w5 hb5; have y0 := cell_of_row w5 WR.heap.size 0 _ _ _ hx5; have y1 := cell_of_row w5 WR.heap.size 1 _ _ _ hx5; have y2 := cell_of_row w5 WR.heap.size 2 _ _ _ hx5; have HX5 := Lib.hid hx5; have HB5 := Lib.hid hb5; have HOW5 := Lib.hid (own_keep HOWN.out (Mod.of_below (HBW.out _ hb5)) (fun _ _ h => h)); have HS5 := Lib.hid (HBW.out _ hb5).size; clear hx5 hb5)
                | (at_builtin; refine wpList_app1 _ byteElemT rfl (.tmp 51) (.tmp 54) rfl w.heap.size (.slice Ak m ck) m _ rfl HOW5.out _ rfl rfl (by simp [Value.oneCell']) (by unfold maxLen; omega) (by omega) (by have := HS5.out; have := HBL.out.size; omega) ?_; intro A8 c8 w8 hA; have HA := Lib.hid hA; have hx8 := (hA.grow.block WR.heap.size (Array.getElem?_eq_some_iff.1 HX5.out).1 (fun e => by have := own_lt HOWN.out WR.heap.size e.symm; omega)).trans HX5.out; have v0 := cell_of_row w8 WR.heap.size 0 _ _ _ hx8; have v1 := cell_of_row w8 WR.heap.size 1 _ _ _ hx8; have v2 := cell_of_row w8 WR.heap.size 2 _ _ _ hx8; clear hA hx8))
              go_loopg [6, 10] 0 (fun g2 s6 s10 wr => s6 = .slice A8 (m + 1) c8 ∧ s10 = .int .i64 0 ∧ wr = w8)
              case atStart => exact ⟨rfl, rfl, rfl⟩
              case round =>
                obtain ⟨rfl, rfl, rfl⟩ := hrel
                go_wp2
                go_roundg (G - 1)
                case measure => omega
                case rel =>
                  have hb7 := HBL.out.trans ((HBW.out _ HB5.out).mono HBL.out.size)
                  have h := HA.out
                  rw [byteCellsOne, ← byteCells_append, ← HP.out] at h
                  exact ⟨k + 1, m + 1, putT (tb, tn, td) out, A8, c8, by omega, rfl, by go_num, by rw [HP.out, List.length_append, HLEN.out]; rfl, HR.out, by omega, by omega, h.own, h.below hb7 hb7.size (own_base HOWN.out)⟩
            · dsimp only at e1 e2 e3 e4 e5
              clear e5
              have hsz : szT (tb, tn, td) = tn := by unfold szT; simp only; rw [if_neg (by omega)]
              rw [hsz] at hs
              obtain ⟨n, rfl⟩ : ∃ n : Nat, tn = (n : Int) := ⟨tn.toNat, by omega⟩
              obtain ⟨q, rfl⟩ : ∃ q : Nat, td = (q : Int) := ⟨td.toNat, by omega⟩
              have HP : Hid (putT (tb, (n : Int), (q : Int)) out = copyN q n out) := by show _ = _; unfold putT; simp only; rw [if_neg (by omega), Int.toNat_natCast, Int.toNat_natCast]
              have u0 : ((n : Int) == 0) = false := by simp; omega
              have u0' : (n == 0) = false := by simp; omega
              have t3 : decide (most < (m : Int)) = false := decide_eq_false (by omega)
              have t4 : decide (most - (m : Int) < (n : Int)) = false := decide_eq_false (by omega)
              have hsb : (m : Int) + (n : Int) ≤ most := by omega
              have hdm : q ≤ m := by omega
              have t1' : decide (m < q) = false := decide_eq_false (by omega)
              clear hok HST hd hs hsz HPL2 HPL
              go_wp2_with (go_at_call 17; refine (HRI.out _).mono ?_; rintro e w5 ⟨rfl, hb5⟩; have hx5 := HUP.out w5 hb5; have y0 := cell_of_row w5 WR.heap.size 0 _ _ _ hx5; have y1 := cell_of_row w5 WR.heap.size 1 _ _ _ hx5; have y2 := cell_of_row w5 WR.heap.size 2 _ _ _ hx5; have HX5 := Lib.hid hx5; have HB5 := Lib.hid hb5; have HOW5 := Lib.hid (own_keep HOWN.out (Mod.of_below (HBW.out _ hb5)) (fun _ _ h => h)); have HS5 := Lib.hid (HBW.out _ hb5).size; clear hx5 hb5)
              go_loopg [6, 10] n (fun g2 s6 s10 wr => ∃ (j m2 : Nat) (Aj : Option Addr) (cj : Nat), j + g2 = n ∧ m2 = m + j ∧ s6 = .slice Aj m2 cj ∧ s10 = .int .i64 (j : Int) ∧ App w5 w.heap.size 5 1 (.slice Ak m ck) m2 (byteCells (copyN q j out)) wr (.slice Aj m2 cj))
              case atStart => exact ⟨0, m, Ak, ck, by omega, rfl, rfl, rfl, App.start HOW5.out⟩
              case round =>
                obtain ⟨j, m2, Aj, cj, hj2, hmn, rfl, rfl, hap⟩ := hrel
                have HM := Lib.hid hmn
                have HAP := Lib.hid hap
                have hx8 := (hap.grow.block WR.heap.size (Array.getElem?_eq_some_iff.1 HX5.out).1 (fun e => by have := own_lt HOWN.out WR.heap.size e.symm; omega)).trans HX5.out
                have v1 := cell_of_row wr WR.heap.size 1 _ _ _ hx8
                have v2 := cell_of_row wr WR.heap.size 2 _ _ _ hx8
                by_cases hj : j < n
                · obtain ⟨p, hp⟩ : ∃ p, m2 - q = p := ⟨_, rfl⟩
                  have hsub : IntKind.i64.wrap ((m2 : Int) - (q : Int)) = (p : Int) := by rw [IntWalk.i64_in _ (by omega)]; omega
                  have hlen : (copyN q j out).length = m2 := by rw [copyN_len, HLEN.out]; omega
                  obtain ⟨x, hx⟩ : ∃ x, (copyN q j out)[p]? = some x := ⟨_, List.getElem?_eq_getElem (by omega)⟩
                  have HCP : Hid (copyN q (j + 1) out = copyN q j out ++ [x]) := by show _ = _; rw [copyN, hlen, hp, List.getD, hx]; rfl
                  obtain ⟨bb, oo, rfl, _, hcc⟩ := (Cells.of_own hap.own) (by rw [byteCells_length]; omega)
                  have e3 : wr.cell? ⟨bb, oo + p, none⟩ = some (.int .u8 (x.toNat : Int)) := hcc p _ (byteCells_get hx)
                  have hpm : p < m2 := by omega
                  have hsz2 := hap.grow.size
                  have hmb : m2 ≤ 100000300 := by omega
                  clear hap hmn hx hcc hp hlen hx8
                  go_wp2_with (at_builtin; refine wpList_app1 _ byteElemT rfl (.tmp 70) (.tmp 72) rfl w.heap.size (.slice (some ⟨bb, oo, none⟩) m2 cj) m2 _ rfl HAP.out.own _ rfl rfl (by simp [Value.oneCell']) (by unfold maxLen; omega) (by omega) (by have := HS5.out; have := HBL.out.size; omega) ?_; intro A2 c2 w2 hA; have HA := Lib.hid hA; clear hA)
                  go_roundg (gk - 1)
                  case measure => omega
                  case rel =>
                    refine ⟨j + 1, m2 + 1, A2, c2, by omega, by have := HM.out; omega, rfl, by go_num, ?_⟩
                    have h := HAP.out.trans HA.out
                    rw [byteCellsOne, ← byteCells_append, ← HCP.out] at h
                    exact h
                · obtain rfl : j = n := by omega
                  clear hap hmn hx8
                  go_wp2
                  go_roundg (G - 1)
                  case measure => omega
                  case rel =>
                    have hb7 := HBL.out.trans ((HBW.out _ HB5.out).mono HBL.out.size)
                    have h := HAP.out
                    have hm := HM.out
                    rw [← HP.out] at h
                    exact ⟨k + 1, m2, putT (tb, (j : Int), (q : Int)) out, Aj, cj, by omega, rfl, by go_num, by rw [HP.out, copyN_len, HLEN.out]; omega, HR.out, by omega, by omega, h.own, h.below hb7 hb7.size (own_base HOWN.out)⟩
      · have hok' : okT (tb, tn, td) = false := by simpa using hok
        rw [hok'] at HRI HST
        have HR : Hid (expE most L [] = (3, [])) := by show _ = _; rw [HST.out, if_pos (.inl rfl)]
        clear hok hok' HST
        go_wp2_with (go_at_call 17; refine (HRI.out _).mono ?_; rintro e w5 ⟨rfl, hb5⟩; have HB5 := Lib.hid hb5; clear hb5)
        go_ret2
        exact ⟨none, 0, by rw [HR.out]; rfl, by rw [HR.out]; exact Cells.nil _ _ _, HBL.out.trans ((HBW.out _ HB5.out).mono HBL.out.size)⟩
    · obtain rfl : k = l := by omega
      have HR : Hid (expE most L [] = (0, out)) := by show _ = _; rw [HEX.out, List.drop_of_length_le (by rw [HL.out]; exact Nat.le_refl _)]; rfl
      go_wp2
      go_ret2
      exact ⟨Ak, ck, by rw [HR.out, HLEN.out]; rfl, by rw [HR.out]; exact Cells.of_own HOWN.out, HBL.out⟩
end Go.Proofs.Ytdlikfefndogbaa
