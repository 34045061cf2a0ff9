/- Layer 11: the bytes of tokens, and how many they are. -/
import Derived.Test.YtglbmghpkipipaaTxEx
namespace Go.Proofs.Ytglbmghpkipipaa
open Go.RowKit Go.Shelf

theorem tiC_len (L : List Ti) : ∀ r ∈ L, (tiC r).length = 3 := fun _ _ => rfl
set_option maxRecDepth 100000 in
set_option maxHeartbeats 4000000 in
theorem Expand_any (A : Option Addr) (l c : Nat) (L : List Ti) (most : Int) (w : World) (hl : L.length = l) (hm : l ≤ 100000) (hm1 : -9223372036854775808 ≤ most) (hm2 : most ≤ 9223372036854775807) (hc : Cells w w.heap.size A (L.map tiC).flatten) :
    Calls Try.prog 15 #[.slice A l c, .int .i64 most] w fun e w' => ∃ A' c', e = .returned (.tuple #[.slice A' (expE most L []).2.length c', .int .i64 (expE most L []).1]) ∧ Bytes w' w'.heap.size A' (expE most L []).2 ∧ Below w.heap.size w w' := by
  have HL := Lib.hid hl
  have HC := Lib.hid hc
  clear hl hc
  go_enter Try.func15, Try.ntmps15
  go_wp2
  go_loopg [6, 11] l (fun gk s6 s11 wr => ∃ (k m : Nat) (out : List UInt8) (Ak : Option Addr) (ck : Nat), k + gk = l ∧ s6 = .slice Ak m ck ∧ s11 = .int .i64 (k : Int) ∧ out.length = m ∧ expE most L [] = expE most (L.drop k) out ∧ (m = 0 ∨ (m : Int) ≤ most) ∧ m ≤ 258 * k ∧ OwnB wr w.heap.size 5 (.slice Ak m ck) m out ∧ Below w.heap.size w wr)
  case atStart => exact ⟨0, 0, [], none, 0, by omega, rfl, rfl, rfl, rfl, .inl rfl, by omega, World.ownsRow_nil _ _ _ _, Below.refl _ _⟩
  case round =>
    obtain ⟨k, m, out, Ak, ck, hk, rfl, rfl, hlen, hex, hmost, hmk, hown, hbl⟩ := hrel
    have HLEN := Lib.hid hlen
    have HEX := Lib.hid hex
    have HOWN := Lib.hid hown
    have HBL := Lib.hid hbl
    clear hlen hex hown hbl
    by_cases h : k < l
    · have hkl : k < L.length := by rw [HL.out]; exact h
      obtain ⟨t, ht⟩ : ∃ t, L[k]? = some t := ⟨_, List.getElem?_eq_getElem hkl⟩
      have hdrop : L.drop k = t :: L.drop (k + 1) := by
        rw [List.drop_eq_getElem_cons hkl]
        rw [List.getElem?_eq_getElem hkl] at ht
        injection ht with ht
        rw [ht]
      have HST : Hid (expE most L [] = if okT t = false ∨ (m : Int) < t.2.2 then (3, []) else if most - (m : Int) < szT t then (5, []) else expE most (L.drop (k + 1)) (putT t out)) := by
        show _ = _
        rw [HEX.out, hdrop, expE, HLEN.out]
      have HPL := Lib.hid (fun hok => putT_len (t := t) out hok)
      have HEX5 : Hid (∀ Z : World, Below wr.heap.size wr Z → okT t = true → t.2.2 ≤ (m : Int) → Calls Try.prog 30 #[.slice Ak m ck, tiV t] Z fun e w' => ∃ A' c', e = .returned (.slice A' (putT t out).length c') ∧ App Z w.heap.size 5 1 (.slice Ak m ck) (putT t out).length (byteCells (putT t out)) w' (.slice A' (putT t out).length c')) := fun Z hZ hok hd =>
        expand_any Ak m ck w.heap.size out t Z HLEN.out (by omega) hok hd (by have := HBL.out.size; have := hZ.size; omega) (own_keep HOWN.out (Mod.of_below hZ) (fun _ _ h => h))
      have HRI := Lib.hid (fun Z => Right_any t Z)
      have HSI := Lib.hid (fun Z => szT_any t Z)
      have hs1 := szT_pos t
      have HSL : Hid (okT t = true → szT t ≤ 258) := fun h => szT_le h
      have hwr : IntKind.i64.wrap (most - (m : Int)) = most - (m : Int) := IntWalk.i64_in _ (by omega)
      have hlt3 : k * 3 + 0 < (L.map tiC).flatten.length := (List.getElem?_eq_some_iff.1 (code_at (tiC_len L) ht (show (tiC t)[0]? = some (.int .u8 (t.1.toNat : Int)) from rfl))).1
      obtain ⟨b, o, rfl, _, hcc⟩ := HC.out (by omega)
      have x0 : wr.cell? ⟨b, o + k * 3, none⟩ = some (.int .u8 (t.1.toNat : Int)) := (HBL.out.cell (p := ⟨b, o + k * 3, none⟩) (by assumption)).trans (hcc (k * 3 + 0) _ (code_at (tiC_len L) ht rfl))
      have x1 : wr.cell? ⟨b, o + k * 3 + 1, none⟩ = some (.int .i64 t.2.1) := (HBL.out.cell (p := ⟨b, o + k * 3 + 1, none⟩) (by assumption)).trans (hcc (k * 3 + 1) _ (code_at (tiC_len L) ht rfl))
      have x2 : wr.cell? ⟨b, o + k * 3 + 2, none⟩ = some (.int .i64 t.2.2) := (HBL.out.cell (p := ⟨b, o + k * 3 + 2, none⟩) (by assumption)).trans (hcc (k * 3 + 2) _ (code_at (tiC_len L) ht rfl))
      obtain ⟨W6, hW6⟩ : ∃ W6, wr.alloc (.cells #[.int .u8 (t.1.toNat : Int), .int .i64 t.2.1, .int .i64 t.2.2] 32) = W6 := ⟨_, rfl⟩
      have HX6 : Hid (W6.heap[wr.heap.size]? = some (.cells #[.int .u8 (t.1.toNat : Int), .int .i64 t.2.1, .int .i64 t.2.2] 32)) := by show _ = _; rw [← hW6]; exact heap_alloc_new wr _
      have HB6 : Hid (Below wr.heap.size wr W6) := by show Below _ _ _; rw [← hW6]; exact (Below.refl _ wr).alloc (Nat.le_refl _) _
      have HZ6 : Hid (W6.heap.size = wr.heap.size + 1) := by show _ = _; rw [← hW6]; simp
      have z0 := cell_of_row W6 wr.heap.size 0 _ _ _ HX6.out
      have z1 := cell_of_row W6 wr.heap.size 1 _ _ _ HX6.out
      have z2 := cell_of_row W6 wr.heap.size 2 _ _ _ HX6.out
      have HUP : Hid (∀ Z : World, Below W6.heap.size W6 Z → Z.heap[wr.heap.size]? = some (.cells #[.int .u8 (t.1.toNat : Int), .int .i64 t.2.1, .int .i64 t.2.2] 32)) := fun Z hZ => (hZ.block _ (by have := HZ6.out; omega)).trans HX6.out
      have HBW : Hid (∀ Z : World, Below W6.heap.size W6 Z → Below wr.heap.size wr Z) := fun Z hZ => HB6.out.trans (hZ.mono HB6.out.size)
      obtain ⟨tb, tn, td⟩ := t
      simp only [tiV] at HRI HSI HEX5 x0 x1 x2 hW6 z0 z1 z2 HX6 HUP
      simp only at HST
      clear hcc hdrop ht hlt3 hkl
      by_cases hok : okT (tb, tn, td) = true
      · have HOK := Lib.hid hok
        rw [hok] at HRI HST
        by_cases hd : (m : Int) < td
        · have t1 : decide ((m : Int) < td) = true := decide_eq_true hd
          have HR : Hid (expE most L [] = (3, [])) := by show _ = _; rw [HST.out, if_pos (.inr hd)]
          clear hok HST hd
          go_wp2_with (go_at_call 28; refine (HRI.out _).mono ?_; rintro e w5 ⟨rfl, hb5⟩; have hx5 := HUP.out w5 hb5; have y0 := cell_of_row w5 wr.heap.size 0 _ _ _ hx5; have y1 := cell_of_row w5 wr.heap.size 1 _ _ _ hx5; have y2 := cell_of_row w5 wr.heap.size 2 _ _ _ hx5; have HB5 := Lib.hid hb5; clear hx5 hb5)
          go_ret2
          exact ⟨none, 0, by rw [HR.out]; rfl, by rw [HR.out]; exact Cells.nil _ _ _, HBL.out.trans ((HBW.out _ HB5.out).mono HBL.out.size)⟩
        · have t1 : decide ((m : Int) < td) = false := decide_eq_false hd
          have HD : Hid (td ≤ (m : Int)) := by show _ ≤ _; omega
          by_cases hs : most - (m : Int) < szT (tb, tn, td)
          · have HR : Hid (expE most L [] = (5, [])) := by show _ = _; rw [HST.out, if_neg (by simp; omega), if_pos hs]
            have t2 : decide (most - (m : Int) < szT (tb, tn, td)) = true := decide_eq_true hs
            clear hok HST hd hs
            generalize szT (tb, tn, td) = sz at *
            go_wp2_with (first
              | (go_at_call 28; refine (HRI.out _).mono ?_; rintro e w5 ⟨rfl, hb5⟩; have hx5 := HUP.out w5 hb5; have y0 := cell_of_row w5 wr.heap.size 0 _ _ _ hx5; have y1 := cell_of_row w5 wr.heap.size 1 _ _ _ hx5; have y2 := cell_of_row w5 wr.heap.size 2 _ _ _ hx5; have HB5 := Lib.hid hb5; clear hx5 hb5)
              | (go_at_call 29; refine (HSI.out _).mono ?_; rintro e w7 ⟨rfl, hb7⟩; have HB7 := Lib.hid hb7; clear hb7))
            go_ret2
            exact ⟨none, 0, by rw [HR.out]; rfl, by rw [HR.out]; exact Cells.nil _ _ _, HBL.out.trans ((HBW.out _ (HB5.out.trans (HB7.out.mono HB5.out.size))).mono HBL.out.size)⟩
          · have HR : Hid (expE most L [] = expE most (L.drop (k + 1)) (putT (tb, tn, td) out)) := by show _ = _; rw [HST.out, if_neg (by simp; omega), if_neg hs]
            have t2 : decide (most - (m : Int) < szT (tb, tn, td)) = false := decide_eq_false hs
            have hsb : (m : Int) + szT (tb, tn, td) ≤ most := by omega
            have hpl := HPL.out hok
            have hsl := HSL.out hok
            rw [HLEN.out] at hpl
            clear hok HST hd hs
            generalize szT (tb, tn, td) = sz at *
            obtain ⟨m2, hm2'⟩ : ∃ m2, (putT (tb, tn, td) out).length = m2 := ⟨_, rfl⟩
            rw [hm2'] at HEX5 hpl
            have HM2 := Lib.hid hm2'
            clear hm2'
            go_wp2_with (first
              | (go_at_call 28; refine (HRI.out _).mono ?_; rintro e w5 ⟨rfl, hb5⟩; have hx5 := HUP.out w5 hb5; have y0 := cell_of_row w5 wr.heap.size 0 _ _ _ hx5; have y1 := cell_of_row w5 wr.heap.size 1 _ _ _ hx5; have y2 := cell_of_row w5 wr.heap.size 2 _ _ _ hx5; have HB5 := Lib.hid hb5; clear hx5 hb5)
              | (go_at_call 29; refine (HSI.out _).mono ?_; rintro e w7 ⟨rfl, hb7⟩; have hb57 := HB5.out.trans (hb7.mono HB5.out.size); have hx7 := HUP.out w7 hb57; have v0 := cell_of_row w7 wr.heap.size 0 _ _ _ hx7; have v1 := cell_of_row w7 wr.heap.size 1 _ _ _ hx7; have v2 := cell_of_row w7 wr.heap.size 2 _ _ _ hx7; have HB7 := Lib.hid hb57; clear hx7 hb7 hb57)
              | (go_at_call 30; refine (HEX5.out _ (HBW.out _ HB7.out) HOK.out HD.out).mono ?_; rintro e w8 ⟨A8, c8, rfl, hap⟩; have HAP := Lib.hid hap; clear hap))
            go_roundg (gk - 1)
            case measure => omega
            case rel =>
              have hb7 := HBL.out.trans ((HBW.out _ HB7.out).mono HBL.out.size)
              exact ⟨k + 1, m2, putT (tb, tn, td) out, A8, c8, by omega, rfl, by go_num, HM2.out, HR.out, by omega, by omega, HAP.out.own, HAP.out.below hb7 hb7.size (own_base HOWN.out)⟩
      · have hok' : okT (tb, tn, td) = false := by simpa using hok
        rw [hok'] at HRI HST
        have HR : Hid (expE most L [] = (3, [])) := by show _ = _; rw [HST.out, if_pos (.inl rfl)]
        clear hok hok' HST
        go_wp2_with (go_at_call 28; refine (HRI.out _).mono ?_; rintro e w5 ⟨rfl, hb5⟩; have HB5 := Lib.hid hb5; clear hb5)
        go_ret2
        exact ⟨none, 0, by rw [HR.out]; rfl, by rw [HR.out]; exact Cells.nil _ _ _, HBL.out.trans ((HBW.out _ HB5.out).mono HBL.out.size)⟩
    · obtain rfl : k = l := by omega
      have HR : Hid (expE most L [] = (0, out)) := by show _ = _; rw [HEX.out, List.drop_of_length_le (by rw [HL.out]; exact Nat.le_refl _)]; rfl
      go_wp2
      go_ret2
      exact ⟨Ak, ck, by rw [HR.out, HLEN.out]; rfl, by rw [HR.out]; exact Cells.of_own HOWN.out, HBL.out⟩
end Go.Proofs.Ytglbmghpkipipaa
