/- Layer 34: the reference's Find is the table's row. -/
import Derived.Test.YtnobeipabfdkjaaQkRfT
namespace Go.Proofs.Ytnobeipabfdkjaa
open Go.RowKit Go.Maps BitsP

theorem refWidth34_any (k : Int) (w : World) : Calls Try.prog 13 #[.int .i64 k] w fun e w' => e = .returned (.int .i64 (wid k : Int)) ∧ w = w' := by
  rcases wid_ways k with ⟨h1, h2⟩ | ⟨h1, h2⟩ | ⟨h1, h2, h3⟩
  · rw [h2]
    go_enter Try.func13, Try.ntmps13
    go_wp2
    go_ret
    exact ⟨rfl, rfl⟩
  · rw [h2]
    have h3 : ¬ k < 1 := by omega
    go_enter Try.func13, Try.ntmps13
    go_wp2
    go_ret
    exact ⟨rfl, rfl⟩
  · rw [h1]
    have h4 : ¬ k < 1 := by omega
    have h5 : ¬ 15 < k := by omega
    clear h1 h2 h3
    go_enter Try.func13, Try.ntmps13
    go_wp2
    go_ret
    exact ⟨rfl, rfl⟩
set_option maxRecDepth 100000 in
set_option maxHeartbeats 400000 in
theorem refRow34_any (m q : Nat) (w : World) (hm : m < 32768) (hq : q ≤ 15) :
    Calls Try.prog 31 #[.int .i64 (m : Int), .int .i64 (q : Int)] w fun e w' => ∃ A c, e = .returned (.slice A q c) ∧ OwnB w' w.heap.size 5 (.slice A q c) q (bitBytes (bitsOf m q)) ∧ Below w.heap.size w w' := by
  go_enter Try.func31, Try.ntmps31
  go_wp2
  go_loopg [0, 5, 6] q (fun gk nk vk i wr => ∃ k : Nat, k + gk = q ∧ i = .int .i64 k ∧ nk = .int .i64 (m / p2 k : Nat) ∧ OwnB wr w.heap.size 5 vk k (bitBytes (bitsOf m k)) ∧ Below w.heap.size w wr)
  case atStart => exact ⟨0, by omega, rfl, by simp [p2], World.ownsRow_nil _ _ _ _, Below.refl _ _⟩
  case round =>
    obtain ⟨k, hk, rfl, rfl, hown, hbel⟩ := hrel
    have HOWN := Lib.hid hown
    have HBEL := Lib.hid hbel
    clear hown hbel
    have hle : m / p2 k ≤ m := Nat.div_le_self _ _
    have HS : Hid (bitsOf m (k + 1) = bitsOf m k ++ [decide (m / p2 k % 2 = 1)]) := bitsOf_snoc m k
    have HD := Lib.hid (div_p2 m k)
    generalize m / p2 k = x at *
    obtain ⟨A, c, rfl⟩ := own_form HOWN.out
    by_cases hkq : k < q
    · go_wp2_with (at_builtin; refine wpList_app1 _ byteElem3 rfl (.tmp 12) (.tmp 16) rfl w.heap.size (.slice A k c) k _ rfl HOWN.out _ rfl rfl (by simp [Value.oneCell']) (by unfold maxLen; omega) (by omega) HBEL.out.size ?_; intro A' c' w2 hA; have HA := Lib.hid hA; clear hA)
      go_roundg (gk - 1)
      case measure => omega
      case rel =>
        refine ⟨k + 1, by omega, by go_num, by rw [← HD.out]; go_num, ?_, HA.out.below HBEL.out HBEL.out.size (own_base HOWN.out)⟩
        have := HA.out.own
        rw [HS.out]
        unfold OwnB
        rw [bitBytes_snoc, ← bit_cell]
        exact this
    · obtain rfl : k = q := by omega
      go_wp2
      go_ret
      exact ⟨A, c, rfl, HOWN.out, HBEL.out⟩
theorem beg_low {v n x W : Nat} (hn : n ≤ W) : begB (codeB v n) (bitsOf x W) = true ↔ x % 2 ^ n = turnN v n := by
  unfold begB
  rw [decide_eq_true_eq, codeB_len, bitsOf_length, List.take_of_length_le (by rw [codeB_len]; exact hn)]
  have e1 : num ((bitsOf x W).take n) = x % 2 ^ n := by
    rw [num_take, num_bitsOf, p2_pow, p2_pow, mod_mod_pow hn]
  constructor
  · intro h
    rw [← e1, ← h]
    rfl
  · intro h
    refine num_inj (by rw [codeB_len, List.length_take, bitsOf_length]; omega) ?_
    rw [e1, h]
    rfl
theorem beg_deep {v n x W : Nat} (hn : W < n) (hx : x < 2 ^ W) : begB (codeB v n) (bitsOf x W) = true ↔ turnN v n % 2 ^ W = x := by
  unfold begB
  rw [decide_eq_true_eq, codeB_len, bitsOf_length, List.take_of_length_le (l := bitsOf x W) (by rw [bitsOf_length]; omega)]
  have e1 : num ((codeB v n).take W) = turnN v n % 2 ^ W := by
    rw [num_take, p2_pow]
    rfl
  have e2 : num (bitsOf x W) = x := by rw [num_bitsOf, p2_pow, Nat.mod_eq_of_lt hx]
  constructor
  · intro h
    rw [← e1, h, e2]
  · intro h
    refine num_inj (by rw [bitsOf_length, List.length_take, codeB_len]; omega) ?_
    rw [e1, e2, h]
/-- What the reference has found among the symbols ahead of one. -/
structure SeenF (zs : List Int) (W x i long : Nat) : Prop where
  low : ∀ s n v k, s < i → Sym zs s n v k → n ≤ W → x % 2 ^ n ≠ turnN v n
  deep : ∀ s n v k, s < i → Sym zs s n v k → W < n → turnN v n % 2 ^ W = x → n ≤ long
  has : long = 0 ∨ ∃ s v k, Sym zs s long v k ∧ W < long ∧ turnN v long % 2 ^ W = x
theorem SeenF.start (zs : List Int) (W x : Nat) : SeenF zs W x 0 0 := ⟨fun s n v k h => by omega, fun s n v k h => by omega, .inl rfl⟩
theorem SeenF.skip {zs : List Int} {W x i long : Nat} (hx : x < 2 ^ W) (h : SeenF zs W x i long) (hi : ∀ n v k, Sym zs i n v k → begB (codeB v n) (bitsOf x W) = false) : SeenF zs W x (i + 1) long := by
  refine ⟨fun s n v k hs hy hn e => ?_, fun s n v k hs hy hn e => ?_, h.has⟩
  · rcases Nat.lt_or_ge s i with h1 | h1
    · exact h.low s n v k h1 hy hn e
    · obtain rfl : s = i := by omega
      have := hi n v k hy
      rw [(beg_low hn).2 e] at this
      cases this
  · rcases Nat.lt_or_ge s i with h1 | h1
    · exact h.deep s n v k h1 hy hn e
    · obtain rfl : s = i := by omega
      have := hi n v k hy
      rw [(beg_deep hn hx).2 e] at this
      cases this
theorem SeenF.long {zs : List Int} {W x i long n v k : Nat} (hx : x < 2 ^ W) (h : SeenF zs W x i long) (hy : Sym zs i n v k) (hn : W < n) (hb : begB (codeB v n) (bitsOf x W) = true) : SeenF zs W x (i + 1) (max long n) := by
  have hd := (beg_deep hn hx).1 hb
  refine ⟨fun s n' v' k' hs hy' hn' e => ?_, fun s n' v' k' hs hy' hn' e => ?_, ?_⟩
  · rcases Nat.lt_or_ge s i with h1 | h1
    · exact h.low s n' v' k' h1 hy' hn' e
    · obtain rfl : s = i := by omega
      have := (hy.one_val hy' rfl).1
      omega
  · rcases Nat.lt_or_ge s i with h1 | h1
    · have := h.deep s n' v' k' h1 hy' hn' e
      omega
    · obtain rfl : s = i := by omega
      have := (hy.one_val hy' rfl).1
      omega
  · rcases Nat.le_total n long with h1 | h1
    · rw [Nat.max_eq_left h1]
      exact h.has
    · rw [Nat.max_eq_right h1]
      exact .inr ⟨i, v, k, hy, hn, hd⟩
theorem row_hit {zs : List Int} (hr : caR zs = true) {W x s n v k : Nat} (hx : x < 2 ^ W) (hy : Sym zs s n v k) (hn : n ≤ W) (hb : begB (codeB v n) (bitsOf x W) = true) : (qF W (allC zs)).rows[x]? = some (s, n, false) :=
  (spec_qF W (allC zs) (allC_okay hr)).low _ (allC_mem.2 ⟨s, n, v, k, hy, rfl⟩) hn x hx ((beg_low hn).1 hb)
theorem SeenF.end_ {zs : List Int} (hr : caR zs = true) {W x i long : Nat} (hx : x < 2 ^ W) (h : SeenF zs W x i long) (hi : zs.length ≤ i) : (qF W (allC zs)).rows[x]? = some (0, long, decide (0 < long)) := by
  have hs := spec_qF W (allC zs) (allC_okay hr)
  have hall : ∀ s n v k, Sym zs s n v k → s < i := fun s n v k hy => by have := (List.getElem?_eq_some_iff.1 hy.len).1; omega
  rcases h.has with h0 | ⟨s, v, k, hy, hW, hd⟩
  · subst h0
    refine hs.none_ x hx (fun a ha hd => ?_) (fun a ha hn e => ?_)
    · obtain ⟨s, n, v, k, hy, rfl⟩ := allC_mem.1 ha
      have := h.deep s n v k (hall s n v k hy) hy hd.1 hd.2
      have := hy.one
      omega
    · obtain ⟨s, n, v, k, hy, rfl⟩ := allC_mem.1 ha
      exact h.low s n v k (hall s n v k hy) hy hn e
  · have hm : (⟨s, long, turnN v long⟩ : Cd) ∈ allC zs := allC_mem.2 ⟨s, long, v, k, hy, rfl⟩
    have hdA : Cd.deepAt W x ⟨s, long, turnN v long⟩ := ⟨hW, hd⟩
    obtain ⟨a0, h0, hd0, hmax, hrow, _⟩ := hs.deep x hx ⟨_, hm, hdA⟩
    have h1 := hmax _ hm hdA
    obtain ⟨s0, n0, v0, k0, hy0, rfl⟩ := allC_mem.1 h0
    have h2 := h.deep s0 n0 v0 k0 (hall _ _ _ _ hy0) hy0 hd0.1 hd0.2
    dsimp only at h1 h2 hrow
    obtain rfl : n0 = long := by omega
    rw [hrow, decide_eq_true (by omega)]
set_option maxRecDepth 100000 in
set_option maxHeartbeats 400000 in
theorem refFind_any (A1 A2 : Option Addr) (l c1 c2 x W : Nat) (zs : List Int) (w : World) (hr : caR zs = true) (hl : zs.length = l) (h1 : Cells w w.heap.size A1 (zs.map ic)) (h2 : Cells w w.heap.size A2 ((caV zs).map ic)) (hW : W ≤ 15) (hx : x < 2 ^ W) :
    Calls Try.prog 17 #[.slice A1 l c1, .slice A2 l c2, .int .i64 (x : Int), .int .i64 (W : Int)] w
      fun e w' => ∃ r : R3, (qF W (allC zs)).rows[x]? = some r ∧ e = .returned (.tuple #[.int .i64 (r.1 : Int), .int .i64 (r.2.1 : Int), .bool r.2.2]) ∧ Below w.heap.size w w' := by
  have h320 := (caR_len hr).1
  have HLB := Lib.hid (caR_len hr).2
  have HL := Lib.hid hl
  have HR := Lib.hid hr
  have HCL : Hid ((caV zs).length = l) := by show _ = _; rw [caV_len, hl]
  have HC1 : Hid (∀ i z, zs[i]? = some z → ∃ b o, A1 = some ⟨b, o, none⟩ ∧ ∀ V, Below w.heap.size w V → V.cell? ⟨b, o + i, none⟩ = some (.int .i64 z)) := fun i z hz => by
    obtain ⟨b, o, rfl, hb, hcc⟩ := h1 (by rw [List.length_map]; have := (List.getElem?_eq_some_iff.1 hz).1; omega)
    exact ⟨b, o, rfl, fun V hV => (hV.cell (p := ⟨b, o + i, none⟩) (by show b < _; omega)).trans (hcc i _ (by rw [List.getElem?_map, hz]; rfl))⟩
  have HC2 : Hid (∀ i z, (caV zs)[i]? = some z → ∃ b o, A2 = some ⟨b, o, none⟩ ∧ ∀ V, Below w.heap.size w V → V.cell? ⟨b, o + i, none⟩ = some (.int .i64 z)) := fun i z hz => by
    obtain ⟨b, o, rfl, hb, hcc⟩ := h2 (by rw [List.length_map]; have := (List.getElem?_eq_some_iff.1 hz).1; omega)
    exact ⟨b, o, rfl, fun V hV => (hV.cell (p := ⟨b, o + i, none⟩) (by show b < _; omega)).trans (hcc i _ (by rw [List.getElem?_map, hz]; rfl))⟩
  have hl320 : l ≤ 320 := by omega
  have hp : (2 : Nat) ^ W ≤ 32768 := Nat.le_trans (Nat.pow_le_pow_right (by decide) hW) (by decide)
  have HROW := Lib.hid (refRow34_any x W w (by omega) hW)
  have HX := Lib.hid hx
  have hx15 : x < 32768 := by omega
  clear h1 h2 hr hl h320 hx hp
  go_enter Try.func17, Try.ntmps17
  go_wp2_with (go_at_call 31; refine HROW.out.mono ?_; rintro e w1 ⟨A4, c4, rfl, ho1, hb1⟩; have HO1 := Lib.hid ho1; have HB1 := Lib.hid hb1; clear ho1 hb1)
  have HRW : Hid (∀ V, Below w1.heap.size w1 V → Bytes V w1.heap.size A4 (bitBytes (bitsOf x W))) := fun V hV => (Cells.of_own HO1.out).below hV (Nat.le_refl _)
  have HBT : Hid (∀ V, Below w1.heap.size w1 V → Below w.heap.size w V) := fun V hV => HB1.out.trans (hV.mono HB1.out.size)
  clear HO1 HROW
  go_loopg [12, 13] l (fun gk s12 s13 wr => ∃ (i long : Nat), i + gk = l ∧ s13 = .int .i64 (i : Int) ∧ s12 = .int .i64 (long : Int) ∧ Below w1.heap.size w1 wr ∧ SeenF zs W x i long)
  case atStart => exact ⟨0, 0, by omega, rfl, rfl, Below.refl _ _, SeenF.start zs W x⟩
  case round =>
    obtain ⟨i, long, hi, rfl, rfl, hb5, hst⟩ := hrel
    have HB5 := Lib.hid hb5
    have HST := Lib.hid hst
    clear hb5 hst
    by_cases hil : i < l
    · have u2 : decide (i < l) = true := by simp; omega
      obtain ⟨zi, hzi⟩ : ∃ z, zs[i]? = some z := ⟨_, List.getElem?_eq_getElem (by rw [HL.out]; exact hil)⟩
      have hbi := lenB_yes (HLB.out zi (List.mem_of_getElem? hzi))
      obtain ⟨n, rfl⟩ := Int.eq_ofNat_of_zero_le hbi.1
      have hn15 : n ≤ 15 := by omega
      obtain ⟨b1, o1, rfl, hcz⟩ := HC1.out i _ hzi
      have HCZ := Lib.hid hcz
      have HZI := Lib.hid hzi
      clear hbi hzi hcz
      have HB5d : Hid (Below w.heap.size w wr.drew) := HBT.out _ HB5.out.drew
      by_cases hn0 : n = 0
      · have S6 : wr.cell? ⟨b1, o1 + i, none⟩ = some (.int .i64 (n : Int)) := HCZ.out _ (HBT.out _ HB5.out)
        have HST2 : Hid (SeenF zs W x (i + 1) long) := HST.out.skip HX.out (noCode (by rw [← hn0]; exact HZI.out))
        have u3 : (n == 0) = true := by simp [hn0]
        have u3' : ((n : Int) == 0) = true := by simp [hn0]
        clear hn0
        go_upto_region 6 with fail
        go_region
        go_wp2
        go_roundg (gk - 1)
        case measure => omega
        case rel => exact ⟨i + 1, long, by omega, by go_num, rfl, HB5.out.drew, HST2.out⟩
      · obtain ⟨v, k, hy⟩ := sym_of HZI.out (by omega) hn15
        obtain ⟨b2, o2, rfl, hcv⟩ := HC2.out i _ hy.val
        have HCV := Lib.hid hcv
        have hv15 := hy.lt HR.out
        have hp15 : (2 : Nat) ^ n ≤ 32768 := Nat.le_trans (Nat.pow_le_pow_right (by decide) hn15) (by decide)
        have S6 : wr.drew.cell? ⟨b1, o1 + i, none⟩ = some (.int .i64 (n : Int)) ∧ wr.drew.cell? ⟨b2, o2 + i, none⟩ = some (.int .i64 (v : Int)) := ⟨HCZ.out _ HB5d.out, hcv _ HB5d.out⟩
        have HBI := Lib.hid (fun V => refBits_any v n V (by omega) hn15)
        have HY := Lib.hid hy
        have u3 : (n == 0) = false := by simp [hn0]
        have u3' : ((n : Int) == 0) = false := by simp; omega
        clear hv15 hp15 hcv hy
        have HBG : Hid (∀ (V : World) A5 c5, Below w1.heap.size w1 V → OwnB V wr.drew.heap.size 5 (.slice A5 n c5) n (bitBytes (codeB v n)) → Calls Try.prog 32 #[.slice A5 n c5, .slice A4 W c4] V fun e w' => e = .returned (.bool (begB (codeB v n) (bitsOf x W))) ∧ ∃ nd, w' = V.drewN nd) := fun V A5 c5 hV ho =>
          refBegins_any A5 A4 n W c5 c4 V.heap.size w1.heap.size (codeB v n) (bitsOf x W) V (codeB_len v n) (bitsOf_length x W) (by omega) (by omega) (Cells.of_own ho) (HRW.out V hV)
        obtain ⟨t, ht⟩ : ∃ t, begB (codeB v n) (bitsOf x W) = t := ⟨_, rfl⟩
        rw [ht] at HBG
        have HT := Lib.hid ht
        clear ht
        go_upto_region 6 with fail
        go_region_held3 (fun V => V.cell? ⟨b1, o1 + i, none⟩ = some (.int .i64 (n : Int)) ∧ V.cell? ⟨b2, o2 + i, none⟩ = some (.int .i64 (v : Int))) (first | exact S6 | exact S7 | exact S8)
          ((first
            | (go_at_call 33; refine (HBI.out _).mono ?_; rintro e w2 ⟨A5, c5, rfl, ho2, hb2⟩; have HO2 := Lib.hid ho2; have HB2 : Hid (Below w1.heap.size w1 w2) := HB5.out.drew.trans (hb2.mono HB5.out.size); have S7 : w2.cell? ⟨b1, o1 + i, none⟩ = some (.int .i64 (n : Int)) ∧ w2.cell? ⟨b2, o2 + i, none⟩ = some (.int .i64 (v : Int)) := ⟨HCZ.out _ (HBT.out _ HB2.out), HCV.out _ (HBT.out _ HB2.out)⟩; clear ho2 hb2)
            | (go_at_call 32; refine (HBG.out _ _ _ HB2.out HO2.out).mono ?_; rintro e w3 ⟨rfl, nd, rfl⟩; have HB3 : Hid (Below w1.heap.size w1 (w2.drewN nd)) := below_drewN HB2.out nd; have S8 : (w2.drewN nd).cell? ⟨b1, o1 + i, none⟩ = some (.int .i64 (n : Int)) ∧ (w2.drewN nd).cell? ⟨b2, o2 + i, none⟩ = some (.int .i64 (v : Int)) := ⟨HCZ.out _ (HBT.out _ HB3.out), HCV.out _ (HBT.out _ HB3.out)⟩)))
        clear S6 S7
        obtain ⟨x1, x2⟩ := S8
        obtain ⟨V3, hV3⟩ : ∃ V3, w2.drewN nd = V3 := ⟨_, rfl⟩
        rw [hV3] at x1 x2 HB3 ⊢
        clear hV3 HB2 HO2 HBI HBG HCZ HCV u3 u3'
        cases t with
        | false =>
          have HST2 : Hid (SeenF zs W x (i + 1) long) := HST.out.skip HX.out fun n' v' k' hy' => by
            obtain ⟨rfl, rfl⟩ := HY.out.one_val hy' rfl
            exact HT.out
          simp only [Bool.not_false]
          go_wp2
          go_roundg (gk - 1)
          case measure => omega
          case rel => exact ⟨i + 1, long, by omega, by go_num, rfl, HB3.out, HST2.out⟩
        | true =>
          simp only [Bool.not_true]
          by_cases hnW : n ≤ W
          · have u4 : decide (n ≤ W) = true := by simp; omega
            have HRH := Lib.hid (row_hit HR.out HX.out HY.out hnW HT.out)
            go_upto_region 8 with fail
            go_region
            go_wp2
            refine bodyPost_ret (v := .tuple #[.int .i64 (i : Int), .int .i64 (n : Int), .bool false]) (by simp [results, Try.results17, go_sem]) rfl ⟨_, HRH.out, rfl, HBT.out _ HB3.out.drew⟩
          · have u4 : decide (n ≤ W) = false := by simp; omega
            have HST2 := Lib.hid (HST.out.long HX.out HY.out (by omega) HT.out)
            by_cases hlg : long < n
            · have u5 : decide (long < n) = true := by simp; omega
              rw [Nat.max_eq_right (Nat.le_of_lt hlg)] at HST2
              go_wp2
              go_roundg (gk - 1)
              case measure => omega
              case rel => exact ⟨i + 1, n, by omega, by go_num, rfl, HB3.out, HST2.out⟩
            · have u5 : decide (long < n) = false := by simp; omega
              rw [Nat.max_eq_left (by omega)] at HST2
              go_wp2
              go_roundg (gk - 1)
              case measure => omega
              case rel => exact ⟨i + 1, long, by omega, by go_num, rfl, HB3.out, HST2.out⟩
    · have u2 : decide (i < l) = false := by simp; omega
      have HE := Lib.hid (HST.out.end_ HR.out HX.out (by rw [HL.out]; omega))
      go_wp2
      refine bodyPost_ret (v := .tuple #[.int .i64 0, .int .i64 (long : Int), .bool (decide (0 < long))]) (by simp [results, Try.results17, go_sem]) rfl ⟨_, HE.out, rfl, HBT.out _ HB5.out⟩
end Go.Proofs.Ytnobeipabfdkjaa
