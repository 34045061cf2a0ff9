/- Layer 8: a symbol is taken. -/
import Derived.Test.YtbpgaaecifnohaaMgRunsPuts33
import Derived.Test.YtbpgaaecifnohaaMgRunsPuts34
import Derived.Test.YtbpgaaecifnohaaMgRunsPuts21
import Derived.WalkMore
import Derived.Deep.RegionLaw
namespace Go.Proofs.Ytbpgaaecifnohaa
open Go.RowKit BitsP

theorem i64_or_low (C Y : Nat) (hC : C < 32768) (hY : Y < 2) : bits .or .i64 ((2 * C : Nat) : Int) (Y : Int) = ((Y + 2 * C : Nat) : Int) := by
  have e : ∀ a : Nat, a < 65536 → (BitVec.ofInt 64 (a : Int)).toNat = a := fun a ha => by
    rw [BitVec.ofInt_natCast, BitVec.toNat_ofNat]; exact Nat.mod_eq_of_lt (by omega)
  have ho : 2 * C ||| Y = Y + 2 * C := by
    have := Nat.two_pow_add_eq_or_of_lt (i := 1) (b := Y) (by omega) C
    rw [Nat.pow_one] at this
    omega
  show IntKind.i64.wrap ((BitVec.ofInt 64 ((2 * C : Nat) : Int) ||| BitVec.ofInt 64 (Y : Int)).toNat : Int) = _
  rw [BitVec.toNat_or, e _ (by omega), e _ (by omega), ho]
  exact IntWalk.i64_in _ (by omega)
theorem num_bit {L : List Bool} {d : Nat} {b : Bool} (h : L[d]? = some b) : num L / 2 ^ d % 2 = bit b := by
  have hl := (List.getElem?_eq_some_iff.1 h).1
  have hb := (List.getElem?_eq_some_iff.1 h).2
  have h1 := num_drop L d
  rw [p2_pow, List.drop_eq_getElem_cons hl, hb, num] at h1
  rw [← h1]
  have := bit_le b
  omega
theorem lc_max {zs : List Int} (hr : caR zs = true) {m : Int} (hm : isMax zs m) : ∃ n : Nat, m = (n : Int) ∧ n ≤ 15 := by
  have h := lenB_yes ((caR_len hr).2 m hm.2)
  exact ⟨m.toNat, by omega, by omega⟩
set_option maxRecDepth 100000 in
set_option maxHeartbeats 400000 in
theorem take8_any (g r base : Nat) (zs : List Int) (S : Nat → Prop) (bs : List UInt8) (p : Nat) (w : World) (hr : caR zs = true) (h : LC w g zs) (hrd : RdS w r base S bs p) (hbl : bs.length ≤ 1000000) :
    Calls Try.prog 64 #[.pointer (some ⟨g, 0, none⟩), .pointer (some ⟨r, 0, none⟩)] w
      fun e w' => ∃ (m on : Nat) (s er : Int), e = .returned (.tuple #[.int .i64 s, .int .i64 er]) ∧ isMax zs (m : Int) ∧ TakeR zs m ((unpack bs).drop p) s er on ∧ RdS w' r base S bs (p + on) ∧ Mod (oneB r) w w' := by
  obtain ⟨A1, A2, A3, c1, c2, c3, mz, hcb, hmx, h1, h2, h3⟩ := h
  obtain ⟨m, rfl, hm15⟩ := lc_max hr hmx
  obtain ⟨p0, p1, p2, p3⟩ := cb_pre hcb
  have hzl := (caR_len hr).1
  obtain ⟨U, hU⟩ : ∃ U, (unpack bs).drop p = U := ⟨_, rfl⟩
  have hUl : U.length = 8 * bs.length - p := by rw [← hU, List.length_drop, unpack_length]
  have HPK := Lib.hid (rpeek_any r base S bs p (m : Int) w hrd (by omega) (by omega) (by omega))
  rw [hU, cnt_nat (by omega)] at HPK
  have HLF := Lib.hid (fun nd : Nat => rleft_any r base S bs p (w.drewN nd) (hrd.drewN nd) (by omega))
  rw [← hUl] at HLF
  have HSK := Lib.hid (fun (nd n : Nat) (hn : n ≤ 15) => rskip_any r base S bs p (n : Int) (w.drewN nd) (hrd.drewN nd) (by omega) (by omega) (by omega))
  have hXl := num_from_lt U 0 m
  rw [List.drop_zero, p2_pow] at hXl
  have hXp : (2 : Nat) ^ m ≤ 32768 := Nat.le_trans (Nat.pow_le_pow_right (by decide) hm15) (by decide)
  obtain ⟨X, hX⟩ : ∃ X, num (U.take m) = X := ⟨_, rfl⟩
  rw [hX] at HPK hXl
  have HEND : Hid (∀ n, n ≤ 15 → w.cell? ⟨g, 4 + n, none⟩ = some (.int .i64 ((whole zs n).length : Nat))) := fun n hn => cb_end hcb (range_map_get (by omega))
  have HV := Lib.hid h2
  have HO := Lib.hid h3
  have HR := Lib.hid hr
  have HMX := Lib.hid hmx
  have HU := Lib.hid hU
  have HUL := Lib.hid hUl
  have HX := Lib.hid hX
  have hX32 : X < 32768 := by omega
  have HRD := Lib.hid hrd
  have hel : ∀ n, n ≤ 15 → (whole zs n).length ≤ 15 * 320 := fun n hn => by have := whole_len zs n; have : n * zs.length ≤ 15 * 320 := Nat.mul_le_mul hn hzl; omega
  have HEL := Lib.hid hel
  obtain ⟨UL, hUL⟩ : ∃ UL, U.length = UL := ⟨_, rfl⟩
  rw [hUL] at HLF
  have hUL32 : UL ≤ 8000000 := by omega
  clear h1 h2 h3 hcb hr hmx hX hXl hXp hU hrd hel p0 hUl
  go_enter Try.func64, Try.ntmps64
  go_wp2
  go_step3
  go_wp2_with (go_at_call 47; refine HPK.out.mono ?_; rintro e w' ⟨rfl, nd0, rfl⟩)
  go_step3
  go_wp2
  go_loopg [7, 8, 9, 10] m (fun gk s7 s8 s9 s10 wr => ∃ (d n nd C : Nat), d + gk = m ∧ n = d + 1 ∧ s7 = .int .i64 (C : Int) ∧ s8 = .int .i64 0 ∧ s9 = .int .i64 13 ∧ s10 = .int .i64 (n : Int) ∧ wr = w.drewN nd ∧ C = hiN (U.take d) ∧ d ≤ UL ∧
    ∀ n, 1 ≤ n → n ≤ d → noHit zs (hiN (U.take n)) n)
  case atStart => exact ⟨0, 1, nd0, 0, by omega, rfl, rfl, rfl, rfl, rfl, rfl, rfl, by omega, fun n h1 h2 => by omega⟩
  case round =>
    obtain ⟨d, n, nd, C, hk, hn, rfl, rfl, rfl, rfl, rfl, hC, hdl, hno⟩ := hrel
    have HNO := Lib.hid hno
    have HCC := Lib.hid hC
    have HN := Lib.hid hn
    clear hno hC
    by_cases hdm : n ≤ m
    · by_cases hdu : n ≤ UL
      · have hdu' : d < U.length := by rw [hUL]; omega
        obtain ⟨b, hb⟩ : ∃ b, U[d]? = some b := ⟨_, List.getElem?_eq_getElem hdu'⟩
        have hbit : X / 2 ^ d % 2 = bit b := by
          rw [← HX.out]
          exact num_bit (by rw [List.getElem?_take, if_pos (by omega)]; exact hb)
        have HC2 : Hid (bit b + 2 * C = hiN (U.take n)) := by show _ = _; rw [hn, hiN_up hb, ← HCC.out]
        have hC32 : C < 32768 := by
          rw [HCC.out]
          refine Nat.lt_of_lt_of_le (hiN_lt _) (Nat.le_trans (Nat.pow_le_pow_right (by decide) (show (U.take d).length ≤ 15 from ?_)) (by decide))
          rw [List.length_take]; omega
        have hY2 := bit_le b
        obtain ⟨Y, hY⟩ : ∃ Y, bit b = Y := ⟨_, rfl⟩
        rw [hY] at hbit HC2 hY2
        obtain ⟨Z, hZ⟩ : ∃ Z, X / 2 ^ d = Z := ⟨_, rfl⟩
        have hZX : Z ≤ X := by rw [← hZ]; exact Nat.div_le_self _ _
        have hshr : (X : Int) / 2 ^ d = (Z : Int) := by rw [← hZ]; simp
        rw [hZ] at hbit
        have hand : bits .and .u32 (Z : Int) 1 = (Y : Int) := by
          rw [show (1 : Int) = ((1 : Nat) : Int) from rfl, u32_and_nat _ _ (by omega) (by decide), Nat.and_one_is_mod, hbit]
        have hor : bits .or .i64 ((C : Int) * 2) (Y : Int) = ((Y + 2 * C : Nat) : Int) := by
          rw [← i64_or_low C Y hC32 (by omega)]
          congr 1
          omega
        have hsub : IntKind.i64.wrap ((n : Int) - 1) = (d : Int) := by rw [IntWalk.i64_in _ (by omega)]; omega
        obtain ⟨D, hD⟩ : ∃ D, Y + 2 * C = D := ⟨_, rfl⟩
        rw [hD] at hor HC2
        have hD2 : D < 65536 := by omega
        have hn15 : n ≤ 15 := by omega
        have q1 := HEND.out n hn15
        have q0 := HEND.out d (by omega)
        have he1 := HEL.out n hn15
        have he0 := HEL.out d (by omega)
        have HIN : Hid (∀ k, (whole zs d).length ≤ k → k < (whole zs n).length → ∃ s v, Sym zs s n v k) := fun k hk0 hk1 => by
          obtain ⟨R, hR, _⟩ := whole_pre zs n (15 - n)
          rw [show n + (15 - n) = 15 by omega] at hR
          have hkl : k < (ordL zs).length := by
            show k < (whole zs 15).length
            rw [hR, List.length_append]; omega
          obtain ⟨s, hs⟩ : ∃ s, (ordL zs)[k]? = some s := ⟨_, List.getElem?_eq_getElem hkl⟩
          obtain ⟨n', v, hy⟩ := sym_at hs
          have h1 := (hy.upto hn15).1 hk1
          obtain rfl : n' = n := by
            rcases Nat.lt_or_ge d n' with h3 | h3
            · have := HN.out
              omega
            · have := (hy.upto (m := d) (by omega)).2 h3
              omega
          exact ⟨s, v, hy⟩
        have HOUT1 : Hid (∀ j s' v', (whole zs n).length ≤ j → Sym zs s' n v' j → D ≠ v') := fun j s' v' hj hy => by
          have := (hy.upto hn15).2 (Nat.le_refl _)
          omega
        have HOUT0 : Hid (∀ j s' v', Sym zs s' n v' j → (whole zs d).length ≤ j) := fun j s' v' hy => by
          rcases Nat.lt_or_ge j (whole zs d).length with h1 | h1
          · have := (hy.upto (m := d) (by omega)).1 h1
            have := HN.out
            omega
          · exact h1
        have hee : (whole zs d).length ≤ (whole zs n).length := by rw [hn, whole, List.length_append]; omega
        obtain ⟨e1, he1'⟩ : ∃ e1, (whole zs n).length = e1 := ⟨_, rfl⟩
        obtain ⟨e0, he0'⟩ : ∃ e0, (whole zs d).length = e0 := ⟨_, rfl⟩
        rw [he1'] at q1 he1 HIN HOUT1 hee
        rw [he0'] at q0 he0 HIN HOUT0 hee
        clear he1' he0' hZ hbit hY hD hb hdu' hn
        have u2 : decide (UL < n) = false := decide_eq_false (by omega)
        go_wp2_with (go_at_call 71; refine (HLF.out nd).mono ?_; rintro e w' ⟨rfl, nd1, rfl⟩)
        obtain ⟨GK, hGK⟩ : ∃ GK, GK = gk := ⟨_, rfl⟩
        subst hGK
        have hGK1 : 1 ≤ GK := by have := HN.out; omega
        go_loopg [8, 9, 11] (e1 - e0) (fun gk s8 s9 s11 wr2 => ∃ (nd2 : Nat) (kz : Int), s8 = .int .i64 0 ∧ s9 = .int .i64 13 ∧ s11 = .int .i64 kz ∧ kz = (e0 : Int) + (gk : Int) - 1 ∧ e0 + gk ≤ e1 ∧ wr2 = w.drewN nd2 ∧ ∀ j s' v', e0 + gk ≤ j → Sym zs s' n v' j → D ≠ v')
        case atStart => exact ⟨nd + nd1, (e1 : Int) - 1, rfl, rfl, rfl, by omega, by omega, rfl, fun j s' v' hj hy => HOUT1.out j s' v' (by omega) hy⟩
        case round =>
          obtain ⟨nd2, kz, rfl, rfl, rfl, hkz, hgk2, rfl, hab⟩ := hrel
          have HAB := Lib.hid hab
          clear hab
          by_cases hg0 : gk = 0
          · have HHIT : Hid (noHit zs (hiN (U.take n)) n) := by
              rw [← HC2.out]
              exact fun s' v' j hy => HAB.out j s' v' (by have := HOUT0.out j s' v' hy; omega) hy
            have u1 : ¬ (e0 : Int) ≤ kz := by omega
            go_wp2
            go_roundg (GK - 1)
            case measure => omega
            case rel => exact ⟨n, n + 1, _, D, by have := HN.out; omega, rfl, rfl, rfl, rfl, by go_num, rfl, HC2.out, hdu, fun n' h1 h2 => by
              rcases Nat.lt_or_ge d n' with h3 | h3
              · obtain rfl : n' = n := by have := HN.out; omega
                exact HHIT.out
              · exact HNO.out n' h1 h3⟩
          · obtain ⟨q, rfl⟩ : ∃ q, gk = q + 1 := ⟨gk - 1, by omega⟩
            obtain ⟨kn, rfl⟩ : ∃ kn : Nat, kz = (kn : Int) := ⟨e0 + q, by omega⟩
            obtain ⟨s, v, hy⟩ := HIN.out kn (by omega) (by omega)
            have hkl := (List.getElem?_eq_some_iff.1 hy.at_).1
            have hvl := (List.getElem?_eq_some_iff.1 hy.val).1
            have hsl := (List.getElem?_eq_some_iff.1 hy.len).1
            obtain ⟨b3, o3, rfl, hb3, hc3⟩ := HO.out (by rw [List.length_map]; omega)
            have c5 : w.cell? ⟨b3, o3 + kn, none⟩ = some (.int .i64 (s : Int)) := hc3 kn _ (by rw [List.getElem?_map, hy.at_]; rfl)
            obtain ⟨b2, o2, rfl, hb2, hc2⟩ := HV.out (by rw [List.length_map]; omega)
            have c6 : w.cell? ⟨b2, o2 + s, none⟩ = some (.int .i64 (v : Int)) := hc2 s _ (by rw [List.getElem?_map, hy.val]; rfl)
            have HY := Lib.hid hy
            have u1 : (e0 : Int) ≤ (kn : Int) := by omega
            have u0 : e0 ≤ kn := by omega
            have hkl5 : kn < 5000 := by omega
            have HQ : Hid (kn = e0 + q ∧ e0 + (q + 1) ≤ e1) := ⟨by omega, hgk2⟩
            have HABS : Hid (∀ j s' v', kn < j → Sym zs s' n v' j → D ≠ v') := fun j s' v' hj hy => HAB.out j s' v' (by have := HQ.out; omega) hy
            clear hc2 hc3 hb2 hb3 hy hkz hvl hgk2 HAB hg0
            rcases Nat.lt_trichotomy v D with hvD | hvD | hvD
            · have HHIT : Hid (noHit zs (hiN (U.take n)) n) := by
                rw [← HC2.out]
                exact noHit_less HY.out hvD HABS.out
              go_wp2
              go_roundg (GK - 1)
              case measure => omega
              case rel => exact ⟨n, n + 1, _, D, by have := HN.out; omega, rfl, rfl, rfl, rfl, by go_num, rfl, HC2.out, hdu, fun n' h1 h2 => by
                rcases Nat.lt_or_ge d n' with h3 | h3
                · obtain rfl : n' = n := by have := HN.out; omega
                  exact HHIT.out
                · exact HNO.out n' h1 h3⟩
            · have t1 : decide (v < D) = false := decide_eq_false (by omega)
              have t1' : ¬ (v : Int) < (D : Int) := by omega
              have t2 : (v == D) = true := by simp; omega
              have t2' : ((v : Int) == (D : Int)) = true := by simp; omega
              have HVD := Lib.hid hvD
              have HSKN := Lib.hid (fun nd => HSK.out nd n hn15)
              clear hvD
              go_wp2_with (go_at_call 48; refine (HSKN.out _).mono ?_; rintro e w9 ⟨rfl, hrd9, hm9⟩; have HRD9 := Lib.hid hrd9; have HM9 := Lib.hid hm9; clear hrd9 hm9)
              rw [Exit.noGoto_ret]
              go_ret2
              rw [HU.out]
              have hfit : p + n ≤ 8 * bs.length := by have := HUL.out; have := HN.out; omega
              have hrd := HRD9.out
              rw [cnt_nat (by omega), (fits_yes hfit).2] at hrd
              exact ⟨m, n, (s : Int), 0, rfl, HMX.out, .inl ⟨s, v, kn, HY.out, by rw [hUL]; exact hdu, by rw [← HC2.out]; exact HVD.out.symm, rfl, rfl⟩, hrd, ((Mod.refl (oneB r) w).drewN nd2).then_ HM9.out⟩
            · have t1 : decide (v < D) = false := decide_eq_false (by omega)
              have t1' : ¬ (v : Int) < (D : Int) := by omega
              have t2 : (v == D) = false := by simp; omega
              have t2' : ((v : Int) == (D : Int)) = false := by simp; omega
              have HVD := Lib.hid hvD
              clear hvD
              go_wp2
              go_roundg q
              case measure => omega
              case rel =>
                refine ⟨_, (kn : Int) - 1, rfl, rfl, by go_num, by have := HQ.out.1; omega, by have := HQ.out.2; omega, rfl, fun j s' v' hj hy => ?_⟩
                rcases Nat.lt_or_ge kn j with h3 | h3
                · exact HABS.out j s' v' h3 hy
                · obtain rfl : j = kn := by have := HQ.out.1; omega
                  have he := HY.out.at_.symm.trans hy.at_
                  injection he with he
                  have := (HY.out.one_val hy he).2
                  have := HVD.out
                  omega
      · have u1 : decide (UL < n) = true := decide_eq_true (by omega)
        go_wp2_with (go_at_call 71; refine (HLF.out nd).mono ?_; rintro e w' ⟨rfl, nd1, rfl⟩)
        rw [Exit.noGoto_ret]
        go_ret2
        rw [HU.out]
        refine ⟨m, 0, 0, 2, rfl, HMX.out, .inr ⟨rfl, rfl, fun n' h1 h2 h3 => HNO.out n' h1 (by rw [hUL] at h3; have := HN.out; omega), ?_⟩, HRD.out.drewN _, (Mod.refl (oneB r) w).drewN _⟩
        rw [if_pos (by rw [hUL]; omega)]
    · go_wp2
      rw [Exit.noGoto_ret]
      go_ret2
      rw [HU.out]
      refine ⟨m, 0, 0, 13, rfl, HMX.out, .inr ⟨rfl, rfl, fun n' h1 h2 h3 => HNO.out n' h1 (by omega), ?_⟩, HRD.out.drewN _, (Mod.refl (oneB r) w).drewN _⟩
      rw [if_neg (by rw [hUL]; omega)]
end Go.Proofs.Ytbpgaaecifnohaa
/- Layer 9: the bits of a table: the law. -/
namespace Go.Proofs.Ytbpgaaecifnohaa
open Go.RowKit BitsP
attribute [local go_sem ↓] Go.wp_at_zero Go.wp_at_succ

theorem below_drewQ {B : Nat} {a w : World} (h : Below B a w) (n : Nat) : Below B a (w.drewN n) := ⟨h.os, h.tape, h.output, h.size, h.block⟩
set_option maxRecDepth 100000 in
set_option maxHeartbeats 1000000 in
theorem rnputs_size (A : Option Addr) (l c : Nat) (w : World) (h : l = 0 ∨ 320 < l) (h4 : l ≤ 400) :
    Calls Try.prog 3 #[.slice A l c] w fun e w' => e = .returned (.bool true) ∧ Below w.heap.size w w' := by
  have HLV := Lib.hid lives9_any
  have HB1 : Hid (Below w.heap.size w (w.alloc (.cells zeroWr 27))) := (Below.refl _ w).alloc (Nat.le_refl _) _
  have HW1 : Hid (WrS (w.alloc (.cells zeroWr 27)) w.heap.size w.heap.size (oneB w.heap.size) []) := WrS.zero _ (heap_alloc_new w _)
  have HWL : Hid (∀ W, Below (w.alloc (.cells zeroWr 27)).heap.size (w.alloc (.cells zeroWr 27)) W → Calls Try.prog 8 #[.pointer (some ⟨w.heap.size, 0, none⟩)] W fun e w' => e = .returned (.int .i64 0) ∧ ∃ n, w' = W.drewN n) := fun W hW =>
    wlen_any w.heap.size w.heap.size (oneB w.heap.size) [] W (HW1.out.keep (Mod.of_below hW) (fun _ _ h => h)) (by simp)
  have HP := Lib.hid (rnput_size A l c (some ⟨w.heap.size, 0, none⟩) (w.alloc (.cells zeroWr 27)) h (by omega))
  rcases h with h | h
  · subst h
    go_enter Try.func3, Try.ntmps3
    go_wp2_with (first
      | (go_at_call 7; refine HP.out.mono ?_; rintro e w2 ⟨rfl, hb2⟩; have HB2 := Lib.hid hb2; clear hb2)
      | (go_at_call 8; refine (HWL.out _ HB2.out).mono ?_; rintro e w3 ⟨rfl, n3, rfl⟩)
      | (go_at_call 6; refine (HLV.out _).mono ?_; rintro e w4 ⟨rfl, hb4⟩; have HB4 := Lib.hid hb4; clear hb4))
    go_ret
    have hs := HB2.out.size
    simp only [World.size_alloc] at hs
    exact ⟨rfl, (below_drewQ (HB1.out.trans (HB2.out.mono (by simp))) n3).trans (HB4.out.mono (by show w.heap.size ≤ w2.heap.size; omega))⟩
  · have t1 : decide ((320 : Int) < (l : Int)) = true := decide_eq_true (by omega)
    have t2 : decide ((l : Int) < 1) = false := decide_eq_false (by omega)
    go_enter Try.func3, Try.ntmps3
    go_wp2_with (first
      | (go_at_call 7; refine HP.out.mono ?_; rintro e w2 ⟨rfl, hb2⟩; have HB2 := Lib.hid hb2; clear hb2)
      | (go_at_call 8; refine (HWL.out _ HB2.out).mono ?_; rintro e w3 ⟨rfl, n3, rfl⟩)
      | (go_at_call 6; refine (HLV.out _).mono ?_; rintro e w4 ⟨rfl, hb4⟩; have HB4 := Lib.hid hb4; clear hb4))
    go_ret
    have hs := HB2.out.size
    simp only [World.size_alloc] at hs
    exact ⟨rfl, (below_drewQ (HB1.out.trans (HB2.out.mono (by simp))) n3).trans (HB4.out.mono (by show w.heap.size ≤ w2.heap.size; omega))⟩
set_option maxRecDepth 100000 in
set_option maxHeartbeats 1000000 in
theorem rnputs_bad (A : Option Addr) (l c : Nat) (zs : List Int) (w : World) (hl : zs.length = l) (h1 : 1 ≤ l) (hm : l ≤ 320) (hb : Cells w w.heap.size A (zs.map ic)) (hr : zs.all lenB = false) :
    Calls Try.prog 3 #[.slice A l c] w fun e w' => e = .returned (.bool true) ∧ Below w.heap.size w w' := by
  have HLV := Lib.hid lives9_any
  have HB1 : Hid (Below w.heap.size w (w.alloc (.cells zeroWr 27))) := (Below.refl _ w).alloc (Nat.le_refl _) _
  have HW1 : Hid (WrS (w.alloc (.cells zeroWr 27)) w.heap.size w.heap.size (oneB w.heap.size) []) := WrS.zero _ (heap_alloc_new w _)
  have HWL : Hid (∀ W, Below (w.alloc (.cells zeroWr 27)).heap.size (w.alloc (.cells zeroWr 27)) W → Calls Try.prog 8 #[.pointer (some ⟨w.heap.size, 0, none⟩)] W fun e w' => e = .returned (.int .i64 0) ∧ ∃ n, w' = W.drewN n) := fun W hW =>
    wlen_any w.heap.size w.heap.size (oneB w.heap.size) [] W (HW1.out.keep (Mod.of_below hW) (fun _ _ h => h)) (by simp)
  have HP := Lib.hid (rnput_bad A l c zs (some ⟨w.heap.size, 0, none⟩) (w.alloc (.cells zeroWr 27)) hl h1 hm (hb.alloc (Nat.le_refl _) _ |>.more (by simp)) hr)
  have HR : Hid (∀ W, Below (w.alloc (.cells zeroWr 27)).heap.size (w.alloc (.cells zeroWr 27)) W → _) := fun W hW =>
    ref7Right_any A l c zs w.heap.size W hl (by omega) (hb.below (HB1.out.trans (hW.mono (by simp))) (Nat.le_refl _))
  rw [show r7B zs = false by rw [r7B, hr, Bool.and_false]] at HR
  have t1 : decide ((320 : Int) < (l : Int)) = false := decide_eq_false (by omega)
  have t2 : decide ((l : Int) < 1) = false := decide_eq_false (by omega)
  clear hb hl hr h1
  · skip
    go_enter Try.func3, Try.ntmps3
    go_wp2_with (first
      | (go_at_call 7; refine HP.out.mono ?_; rintro e w2 ⟨rfl, hb2⟩; have HB2 := Lib.hid hb2; clear hb2)
      | (go_at_call 9; refine (HR.out _ HB2.out).mono ?_; rintro e w' ⟨rfl, rfl⟩)
      | (go_at_call 8; refine (HWL.out _ HB2.out).mono ?_; rintro e w3 ⟨rfl, n3, rfl⟩)
      | (go_at_call 6; refine (HLV.out _).mono ?_; rintro e w4 ⟨rfl, hb4⟩; have HB4 := Lib.hid hb4; clear hb4))
    go_ret
    have hs := HB2.out.size
    simp only [World.size_alloc] at hs
    exact ⟨rfl, (below_drewQ (HB1.out.trans (HB2.out.mono (by simp))) n3).trans (HB4.out.mono (by show w.heap.size ≤ w2.heap.size; omega))⟩
set_option maxRecDepth 100000 in
set_option maxHeartbeats 2000000 in
theorem rnputs_ok (A : Option Addr) (l c : Nat) (ls : List Nat) (w : World) (hl : ls.length = l) (h1 : 1 ≤ l) (hm : l ≤ 320) (hv : ∀ x ∈ ls, x ≤ 15) (hb : Cells w w.heap.size A (nCs ls)) :
    Calls Try.prog 3 #[.slice A l c] w fun e w' => e = .returned (.bool true) ∧ Below w.heap.size w w' := by
  have HLV := Lib.hid lives9_any
  have HZR : Hid (r7B (ls.map (fun n : Nat => (n : Int))) = true) := by show _ = _; rw [r7B, all_right hv, List.length_map, hl]; simp; exact hm
  have HB1 : Hid (Below w.heap.size w (w.alloc (.cells zeroWr 27))) := (Below.refl _ w).alloc (Nat.le_refl _) _
  have HCW : Hid (∀ W, Below w.heap.size w W → Cells W w.heap.size A (nCs ls)) := fun W hW => hb.below hW (Nat.le_refl _)
  have HP := Lib.hid (rnput_any A l c ls w.heap.size w.heap.size (oneB w.heap.size) [] (w.alloc (.cells zeroWr 27)) hl h1 hm hv ((HCW.out _ HB1.out).more (by simp)) (fun a ha hk => by
    obtain ⟨b, o, hab, hbl, _⟩ := hb (by rw [nCs_len]; omega)
    rw [ha] at hab
    cases hab
    have : b = w.heap.size := hk
    omega) (WrS.zero _ (heap_alloc_new w _)) (by simp) (by simp))
  rw [List.nil_append] at HP
  have HR : Hid (∀ W, Below w.heap.size w W → _) := fun W hW => ref7Right_any A l c (ls.map (fun n : Nat => (n : Int))) w.heap.size W (by rw [List.length_map]; exact hl) (by omega) (by rw [nCs_ic]; exact HCW.out W hW)
  rw [HZR.out] at HR
  have HNIL : Hid (∀ W, Below w.heap.size w W → _) := fun W hW => rnput_nil A l c (ls.map (fun n : Nat => (n : Int))) W (by rw [List.length_map]; exact hl) h1 hm (by rw [nCs_ic]; exact (HCW.out W hW).more hW.size)
  have HRF : Hid (∀ W, Below w.heap.size w W → _) := fun W hW => rput9_any A l c ls W hl h1 hm hv ((HCW.out W hW).more hW.size)
  have HTL : Hid ((tabP ls).length ≤ 100000) := by
    show _ ≤ _
    obtain ⟨t, ht⟩ := partsP_ne (ls := ls) (by omega)
    have h2 := partsB_len (lnP_right ht (partsP_all hv t ht)) (partsP ls 0)
    have h3 := parts_few ls
    rw [tabP, List.length_append, List.length_append, bitsOf_length, lensB_len, lnP_len]
    omega
  obtain ⟨L, hL⟩ : ∃ L, tabP ls = L := ⟨_, rfl⟩
  rw [hL] at HP HRF HTL
  have hTL := HTL.out
  have t1 : decide ((320 : Int) < (l : Int)) = false := decide_eq_false (by omega)
  have t2 : decide ((l : Int) < 1) = false := decide_eq_false (by omega)
  have HPL : Hid ((pack L).length ≤ L.length) := pack_length L
  obtain ⟨P, hP⟩ : ∃ P, pack L = P := ⟨_, rfl⟩
  obtain ⟨str, hS⟩ : ∃ str : ByteArray, (⟨P.toArray⟩ : ByteArray) = str := ⟨_, rfl⟩
  have HPK := Lib.hid hP
  have HSTR := Lib.hid hS
  clear hb hl hv h1 hL hP hS HTL
  go_enter Try.func3, Try.ntmps3
  go_wp2_with (first
    | (go_at_call 7; refine HP.out.mono ?_; rintro e w2 ⟨rfl, S2, hw2, hm2, hs2⟩; have HW2 := Lib.hid hw2; have HB2 := Lib.hid (hm2.below HB1.out (by simp) (fun k hk => by cases hk; exact Nat.le_refl _)); clear hw2 hm2 hs2)
    | (go_at_call 9; refine (HR.out _ HB2.out).mono ?_; rintro e w' ⟨rfl, rfl⟩)
    | (go_at_call 10; refine (HRF.out _ HB2.out).mono ?_; rintro e w3 ⟨A3, c3, rfl, hown3, hb3⟩; have HW3 := Lib.hid (HW2.out.keep (Mod.of_below hb3) (fun _ _ h => h)); have HB3 := Lib.hid (HB2.out.trans (hb3.mono HB2.out.size)); have HO3 := Lib.hid hown3; clear hown3 hb3))
  go_region_with (first
    | (go_at_call 7; refine (HNIL.out _ HB3.out.drew).mono ?_; rintro e w4 ⟨rfl, hb4⟩; have HW4 := Lib.hid ((show WrS w3.drew _ _ _ _ from HW3.out).keep (Mod.of_below hb4) (fun _ _ h => h)); have HO4 := Lib.hid (own_keep HO3.out.drew (Mod.of_below hb4) (fun _ _ h => h)); have HB4 := Lib.hid (HB3.out.drew.trans (hb4.mono HB3.out.size)); clear hb4)
    | (go_at_call 8; refine (wlen_any w.heap.size w.heap.size S2 L _ HW4.out (by omega)).mono ?_; rintro e w' ⟨rfl, nd, rfl⟩)
    | (go_at_call 11; refine (wbytes_any w.heap.size w.heap.size S2 L _ (show WrS (w4.drewN nd) _ _ _ _ from HW4.out) (by omega)).mono ?_; rintro e w8 ⟨A8, c8, rfl, hown, hbel⟩; rw [HPK.out] at hown; rw [HPK.out]; have HO8 := Lib.hid (Cells.of_own hown); have HOW8 := Lib.hid (Cells.of_own (own_keep (show OwnB (w4.drewN nd) _ _ _ _ _ from HO4.out) (Mod.of_below hbel) (fun _ _ h => h))); have HBEL8 := Lib.hid ((below_drewQ HB4.out nd).trans (hbel.mono HB4.out.size)); have k8 := str_any w8 A8 P.length c8 _ P HO8.out rfl; rw [HSTR.out] at k8; clear hown hbel)
    | (go_at_call 12; refine (refPack_any A3 L.length c3 w8.heap.size L w8 rfl (by omega) (Nat.le_refl _) HOW8.out).mono ?_; rintro e w9 ⟨A9, c9, rfl, hown, hbel⟩; rw [HPK.out] at hown; rw [HPK.out]; have HO9 := Lib.hid (Cells.of_own hown); have HBEL9 := Lib.hid (HBEL8.out.trans (hbel.mono HBEL8.out.size)); have k9 := str_any w9 A9 P.length c9 _ P HO9.out rfl; rw [HSTR.out] at k9; have k10 := str_any w9 A8 P.length c8 _ P (HO8.out.below hbel (Nat.le_refl _)) rfl; rw [HSTR.out] at k10; clear hown hbel)
    | (go_at_call 6; refine (HLV.out _).mono ?_; rintro e w10 ⟨rfl, hb10⟩; have HB10 := Lib.hid hb10; clear hb10))
  all_goals
    go_wp2
    go_ret
    exact ⟨rfl, HBEL9.out.trans (HB10.out.mono HBEL9.out.size)⟩
theorem rnputs_any (A : Option Addr) (l c : Nat) (zs : List Int) (w : World) (hl : zs.length = l) (hm : l ≤ 9223372036854775807) (hb : Cells w w.heap.size A (zs.map ic)) :
    Calls Try.prog 3 #[.slice A l c] w fun e w' => e = .returned (.bool true) ∧ Below w.heap.size w w' := by
  by_cases h400 : 400 < l
  · have HLV := Lib.hid lives9_any
    clear hb hl
    go_enter Try.func3, Try.ntmps3
    go_wp2_with (go_at_call 6; refine (HLV.out _).mono ?_; rintro e w4 ⟨rfl, hb4⟩; have HB4 := Lib.hid hb4; clear hb4)
    go_ret
    exact ⟨rfl, HB4.out⟩
  by_cases hs : l = 0 ∨ 320 < l
  · exact rnputs_size A l c w hs (by omega)
  cases hr : zs.all lenB with
  | false => exact rnputs_bad A l c zs w hl (by omega) (by omega) hb hr
  | true =>
    obtain ⟨ls, rfl, h2, h3⟩ := right_nats hr
    rw [nCs_ic] at hb
    exact rnputs_ok A l c ls w (by rw [h2]; exact hl) (by omega) (by omega) h3 hb
end Go.Proofs.Ytbpgaaecifnohaa
