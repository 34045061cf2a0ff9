/- Layer 34: QuickSizes walked. -/
import Derived.Test.YtnobeipabfdkjaaQkFind
import Derived.Test.YtnobeipabfdkjaaQkNil
namespace Go.Proofs.Ytnobeipabfdkjaa
open Go.RowKit Go.Maps BitsP

/-- How many rows are behind a row. -/
def dcon (W : Nat) (r : R3) : Nat := if r.2.2 = true then 2 ^ (r.2.1 - W) else 0
def dsum (W : Nat) (L : List R3) : Nat := (L.map (dcon W)).sum
theorem sum_set : ∀ (L : List Nat) (i v u : Nat), L[i]? = some u → (L.set i v).sum + u = L.sum + v
  | [], i, v, u, h => by simp at h
  | x :: l, 0, v, u, h => by
    obtain rfl : x = u := by simpa using h
    simp only [List.set_cons_zero, List.sum_cons]
    omega
  | x :: l, i + 1, v, u, h => by
    have ih := sum_set l i v u (by simpa using h)
    simp only [List.set_cons_succ, List.sum_cons]
    omega
theorem dsum_set {W : Nat} {L : List R3} {i : Nat} {u : R3} (r : R3) (h : L[i]? = some u) : dsum W (L.set i r) + dcon W u = dsum W L + dcon W r := by
  unfold dsum
  rw [List.map_set]
  exact sum_set _ i _ _ (by rw [List.getElem?_map, h]; rfl)
theorem dsum_take {W : Nat} {L : List R3} {i : Nat} {u : R3} (h : L[i]? = some u) : dsum W (L.take (i + 1)) = dsum W (L.take i) + dcon W u := by
  unfold dsum
  rw [take_snoc' h, List.map_append, List.sum_append]
  simp
theorem spec_row {W : Nat} {os : List Cd} {q : QS} (hs : Spec W os q) (ho : Okay os) {x : Nat} {r : R3} (h : q.rows[x]? = some r) (hd : r.2.2 = true) : ∃ a ∈ os, a.deepAt W x ∧ r.2.1 = a.n ∧ a.n ≤ 15 := by
  have hx : x < 2 ^ W := by rw [← hs.len]; exact (List.getElem?_eq_some_iff.1 h).1
  by_cases hD : ∃ a ∈ os, a.deepAt W x
  · obtain ⟨a0, h0, hd0, _, hrow, _⟩ := hs.deep x hx hD
    have := Option.some.inj (h.symm.trans hrow)
    subst this
    exact ⟨a0, h0, hd0, rfl, (ho.bd a0 h0).2.1⟩
  · exfalso
    by_cases hA : ∃ a ∈ os, a.n ≤ W ∧ x % 2 ^ a.n = a.t
    · obtain ⟨a, ha, haW, hat⟩ := hA
      have := Option.some.inj (h.symm.trans (hs.low a ha haW x hx hat))
      subst this
      cases hd
    · have := Option.some.inj (h.symm.trans (hs.none_ x hx (fun a ha hda => hD ⟨a, ha, hda⟩) (fun a ha hn e => hA ⟨a, ha, hn, e⟩)))
      subst this
      cases hd
theorem dsum_add {W : Nat} {os : List Cd} {q : QS} {b : Cd} (hs : Spec W os q) (ho : Okay (os ++ [b])) : dsum W (q.add W b.t b.s b.n).rows = dsum W q.rows + moreT W q b.t b.n := by
  obtain ⟨hok, ⟨hb1, hb15, hbt⟩, hfr⟩ := ho.front
  by_cases hn : b.n ≤ W
  · unfold QS.add moreT
    rw [if_pos hn, if_pos hn, Nat.add_zero]
    unfold dsum
    congr 1
    apply List.ext_getElem?
    intro x
    rw [List.getElem?_map, List.getElem?_map]
    by_cases hx : x < q.rows.length
    · by_cases hm : x % 2 ^ b.n = b.t
      · rw [spreadL_hit hx hm]
        obtain ⟨r, hr⟩ : ∃ r, q.rows[x]? = some r := ⟨_, List.getElem?_eq_getElem hx⟩
        rw [hr]
        have hrd : r.2.2 = false := by
          cases hd : r.2.2 with
          | false => rfl
          | true =>
            obtain ⟨a, ha, hda, _⟩ := spec_row hs hok hr hd
            have := (hfr a ha).2
            rw [← mod_mod_pow hn, hda.2] at this
            exact absurd hm this
        show some (dcon W _) = some (dcon W _)
        unfold dcon
        rw [hrd]
        simp
      · rw [spreadL_miss hx hm]
    · rw [List.getElem?_eq_none (by rw [spreadL_len]; omega), List.getElem?_eq_none (by omega)]
  · unfold QS.add moreT
    rw [if_neg hn, if_neg hn]
    have hx0 : b.t % 2 ^ W < q.rows.length := by rw [hs.len]; exact Nat.mod_lt _ (Nat.two_pow_pos W)
    by_cases h0 : q.rows.getD (b.t % 2 ^ W) r0 = r0
    · rw [if_pos h0, if_pos h0]
      have hr : q.rows[b.t % 2 ^ W]? = some r0 := by
        rw [List.getD, List.getElem?_eq_getElem hx0] at h0
        rw [List.getElem?_eq_getElem hx0]
        exact congrArg some h0
      have := dsum_set (W := W) (0, b.n, true) hr
      simpa [dcon, r0] using this
    · rw [if_neg h0, if_neg h0]
      rfl
theorem tot_dsum (W : Nat) (os : List Cd) (h : Okay os) : totF W os = dsum W (qF W os).rows := by
  have key : ∀ n, n ≤ os.length → Okay (os.take n) → totF W (os.take n) = dsum W (qF W (os.take n)).rows := by
    intro n
    induction n with
    | zero =>
      intro _ _
      show 0 = dsum W (List.replicate (2 ^ W) r0)
      unfold dsum
      rw [List.map_replicate]
      simp [dcon, r0]
    | succ n ih =>
      intro hn ho
      obtain ⟨c, hc⟩ : ∃ c, os[n]? = some c := ⟨_, List.getElem?_eq_getElem (by omega)⟩
      rw [take_snoc' hc] at ho ⊢
      rw [totF_snoc, qF_snoc, dsum_add (spec_qF W _ ho.front.1) ho, ih (by omega) ho.front.1]
  have h2 := key os.length (Nat.le_refl _) (by rw [List.take_length]; exact h)
  rwa [List.take_length] at h2
theorem dcon_le {W : Nat} {r : R3} (h : r.2.2 = true → r.2.1 ≤ 15) : dcon W r ≤ 32768 := by
  unfold dcon
  split
  · rename_i hd
    exact Nat.le_trans (Nat.pow_le_pow_right (by decide) (show r.2.1 - W ≤ 15 by have := h hd; omega)) (by decide)
  · omega
theorem dsum_le {W : Nat} {L : List R3} (h : ∀ (x : Nat) (r : R3), L[x]? = some r → r.2.2 = true → r.2.1 ≤ 15) : ∀ i, i ≤ L.length → dsum W (L.take i) ≤ i * 32768
  | 0, _ => by simp [dsum]
  | i + 1, hi => by
    obtain ⟨r, hr⟩ : ∃ r, L[i]? = some r := ⟨_, List.getElem?_eq_getElem (by omega)⟩
    have ih := dsum_le (W := W) h i (by omega)
    have := dcon_le (W := W) (h i r hr)
    rw [dsum_take hr]
    omega
theorem wid_in (k : Int) : 1 ≤ wid k ∧ wid k ≤ 15 := by unfold wid; omega
set_option maxRecDepth 100000 in
set_option maxHeartbeats 400000 in
theorem qsizes_any (A : Option Addr) (l c : Nat) (zs : List Int) (k : Int) (w : World) (hl : zs.length = l) (hm : l ≤ 9223372036854775807) (hb : Cells w w.heap.size A (zs.map ic)) :
    Calls Try.prog 5 #[.slice A l c, .int .i64 k] w fun e w' => e = .returned (.bool true) ∧ Below w.heap.size w w' := by
  have HLV := Lib.hid lives34_any
  have HWD := Lib.hid (refWidth34_any k)
  obtain ⟨hW1, hW2⟩ := wid_in k
  obtain ⟨W, hW⟩ : ∃ W, wid k = W := ⟨_, rfl⟩
  rw [hW] at HWD hW1 hW2
  by_cases hl330 : 330 < l
  · have hd : decide ((330 : Int) < (l : Int)) = true := by simp; omega
    clear hl hb hW
    go_enter Try.func5, Try.ntmps5
    go_wp2_with (first
      | (go_at_call 13; refine (HWD.out _).mono ?_; rintro e w1 ⟨rfl, rfl⟩)
      | (go_at_call 10; refine (HLV.out _).mono ?_; rintro e w4 ⟨rfl, hb4⟩; have HB4 := Lib.hid hb4; clear hb4))
    go_ret
    exact ⟨rfl, HB4.out⟩
  have hd : decide ((330 : Int) < (l : Int)) = false := by simp; omega
  by_cases hW9 : 9 < W
  · have hd2 : decide ((9 : Int) < (W : Int)) = true := by simp; omega
    have hd2' : decide (9 < W) = true := by simp; omega
    clear hl hb hW
    go_enter Try.func5, Try.ntmps5
    go_wp2_with (first
      | (go_at_call 13; refine (HWD.out _).mono ?_; rintro e w1 ⟨rfl, rfl⟩)
      | (go_at_call 10; refine (HLV.out _).mono ?_; rintro e w4 ⟨rfl, hb4⟩; have HB4 := Lib.hid hb4; clear hb4))
    go_ret
    exact ⟨rfl, HB4.out⟩
  have hd2 : decide ((9 : Int) < (W : Int)) = false := by simp; omega
  have hd2' : decide (9 < W) = false := by simp; omega
  have HRT := Lib.hid (ref8Right_any A l c zs w.heap.size w hl (by omega) hb)
  cases hr : caR zs with
  | false =>
    rw [hr] at HRT
    clear hl hb hr hW
    go_enter Try.func5, Try.ntmps5
    go_wp2_with (first
      | (go_at_call 13; refine (HWD.out _).mono ?_; rintro e w1 ⟨rfl, rfl⟩)
      | (go_at_call 12; refine HRT.out.mono ?_; rintro e w1 ⟨rfl, rfl⟩)
      | (go_at_call 10; refine (HLV.out _).mono ?_; rintro e w4 ⟨rfl, hb4⟩; have HB4 := Lib.hid hb4; clear hb4))
    go_ret
    exact ⟨rfl, HB4.out⟩
  | true =>
    rw [hr] at HRT
    have h320 := (caR_len hr).1
    have HZS : Hid (∀ V, Below w.heap.size w V → Cells V V.heap.size A (zs.map ic)) := fun V hV => (hb.below hV (Nat.le_refl _)).more hV.size
    have HQN := Lib.hid (qnew_any A l c zs k w.heap.size w hl (by omega) hb (Nat.le_refl _) hr)
    rw [hW] at HQN
    have HL := Lib.hid hl
    have HR := Lib.hid hr
    have hl320 : l ≤ 320 := by omega
    clear hr h320 hb hl hm hW
    go_enter Try.func5, Try.ntmps5
    go_upto_region 7 with (first
      | (go_at_call 13; refine (HWD.out _).mono ?_; rintro e w1 ⟨rfl, rfl⟩)
      | (go_at_call 12; refine HRT.out.mono ?_; rintro e w1 ⟨rfl, rfl⟩)
      | (go_at_call 11; refine HQN.out.mono ?_; rintro e w3 ⟨tb, g, m, base, cnt, blk, D, rfl, hlt, hsum, hb3, _, _⟩; have HLT := Lib.hid hlt; have HSUM := Lib.hid hsum; have HB3 := Lib.hid hb3; clear hlt hb3 hsum))
    clear HRT HQN HWD
    go_wp2_with fail
    refine (ref8Values_any A l c zs w3.heap.size w3 HL.out (by omega) (HZS.out _ HB3.out) (Nat.le_refl _)).mono ?_
    rintro e w4 ⟨rfl, hib, hb4⟩
    have HIB := Lib.hid hib
    have HLT4 := Lib.hid (HLT.out.below hb4)
    have HB4 : Hid (Below w.heap.size w w4) := HB3.out.trans (hb4.mono HB3.out.size)
    obtain ⟨vb, hvb⟩ : ∃ vb, w3.heap.size = vb := ⟨_, rfl⟩
    rw [hvb] at HIB ⊢
    have HV4 := Lib.hid (ib_cells HIB.out (ib_lt HIB.out))
    clear hib hb4 hvb HLT HB3
    have hp : (2 : Nat) ^ W ≤ 512 := Nat.le_trans (Nat.pow_le_pow_right (by decide) (show W ≤ 9 by omega)) (by decide)
    have HFD : Hid (∀ (V : World) (x : Nat), Below w4.heap.size w4 V → x < 2 ^ W → _) := fun V x hV hx => refFind_any A (some ⟨vb, 0, none⟩) l c l x W zs V HR.out HL.out (HZS.out V (HB4.out.trans (hV.mono HB4.out.size))) ((HV4.out.below hV (Nat.le_refl _)).more hV.size) (by omega) hx
    have hok := allC_okay HR.out
    have HTOT := Lib.hid (tot_dsum W (allC zs) hok)
    have HBD : Hid (∀ (x : Nat) (r : R3), (qF W (allC zs)).rows[x]? = some r → r.2.2 = true → W < r.2.1 ∧ r.2.1 ≤ 15) := fun x r h hd => by
      obtain ⟨a, _, ha, hn, h15⟩ := spec_row (spec_qF W (allC zs) hok) hok h hd
      rw [hn]
      exact ⟨ha.1, h15⟩
    have HLE := Lib.hid (dsum_le (W := W) (fun x r h hd => (HBD.out x r h hd).2))
    have HQL := Lib.hid HLT4.out.len
    have HSZ : Hid (∀ V, sumD D ≤ 1000000000 → Below w4.heap.size w4 V → _) := fun V hs hV => qsize_any tb g m W cnt base _ blk D V (HLT4.out.below hV) (by omega) hs
    obtain ⟨N, hN⟩ : ∃ N, 2 ^ W = N := ⟨_, rfl⟩
    rw [hN] at HFD HQL HSZ hp
    rw [HSUM.out, HTOT.out] at HSZ
    obtain ⟨Q, hQ⟩ : ∃ Q, (qF W (allC zs)).rows = Q := ⟨_, rfl⟩
    rw [hQ] at HFD HBD HLE HQL HSZ
    have HNN := Lib.hid hN
    have HALL : Hid (dsum W Q = dsum W (Q.take N)) := by show _ = _; rw [← HQL.out, List.take_length]
    rw [HALL.out] at HSZ
    clear hN hQ hok HV4 HLT4 HTOT HSUM HZS HIB
    go_upto_region 10 with fail
    go_loopg [9, 10] W (fun gk sv iv wr => ∃ (i Z : Nat), i + gk = W ∧ iv = .int .i64 (i : Int) ∧ sv = .int .i64 (Z : Int) ∧ Z = 2 ^ i ∧ wr = w4)
    case atStart => exact ⟨0, 1, by omega, rfl, rfl, rfl, rfl⟩
    case round =>
      obtain ⟨i, Z, hi, rfl, rfl, hZ, rfl⟩ := hrel
      by_cases hib : i < W
      · have HZ2 : Hid (2 * Z = 2 ^ (i + 1)) := by show _ = _; rw [hZ, Nat.pow_succ, Nat.mul_comm]
        have hZ15 : Z ≤ 32768 := by rw [hZ]; exact Nat.le_trans (Nat.pow_le_pow_right (by decide) (show i ≤ 15 by omega)) (by decide)
        have u0 : i < W := hib
        clear hZ
        go_wp2
        go_roundg (gk - 1)
        case measure => omega
        case rel => exact ⟨i + 1, 2 * Z, by omega, by go_num, by go_num, HZ2.out, rfl⟩
      · obtain rfl : i = W := by omega
        obtain rfl : Z = N := hZ.trans HNN.out
        obtain ⟨w4, hw4⟩ : ∃ X, X = wr := ⟨_, rfl⟩
        subst hw4
        clear hZ HNN
        go_wp2
        go_loopg [11, 12] Z (fun gk sa sn wr2 => ∃ (x all : Nat), x + gk = Z ∧ sn = .int .i64 (x : Int) ∧ sa = .int .i64 (all : Int) ∧ all = Z + dsum i (Q.take x) ∧ Below w4.heap.size w4 wr2)
        case atStart => exact ⟨0, Z, by omega, rfl, rfl, by simp [dsum], Below.refl _ _⟩
        case round =>
          obtain ⟨x, all, hx, rfl, rfl, hall, hb5⟩ := hrel
          have HB5 := Lib.hid hb5
          have HAL := Lib.hid hall
          have hle := HLE.out x (by rw [HQL.out]; omega)
          have hab : all ≤ 30000000 := by rw [hall]; omega
          obtain ⟨GK, hGK⟩ : ∃ GK, GK = gk := ⟨_, rfl⟩
          subst hGK
          clear hb5 hall hle
          by_cases hxZ : x < Z
          · have HF := Lib.hid (HFD.out wr x HB5.out hxZ)
            go_upto_region 18 with (first | (go_at_call 17; refine HF.out.mono ?_; rintro e w5 ⟨r, hrow, rfl, hb6⟩; have HROW := Lib.hid hrow; have HB6 : Hid (Below w4.heap.size w4 w5) := HB5.out.trans (hb6.mono HB5.out.size); clear hrow hb6))
            have HST := Lib.hid (dsum_take (W := i) HROW.out)
            have HBR := Lib.hid (HBD.out x r HROW.out)
            obtain ⟨a, n, d⟩ := r
            cases d with
            | false =>
              have HA2 : Hid (all = Z + dsum i (Q.take (x + 1))) := by show _ = _; rw [HST.out, HAL.out]; rfl
              go_wp2
              go_roundg (GK - 1)
              case measure => omega
              case rel => exact ⟨x + 1, all, by omega, by go_num, rfl, HA2.out, HB6.out⟩
            | true =>
              have hbr := HBR.out rfl
              dsimp only at hbr
              have HA2 : Hid (all + 2 ^ (n - i) = Z + dsum i (Q.take (x + 1))) := by show _ = _; rw [HST.out, HAL.out, Nat.add_assoc]; rfl
              go_wp2
              go_loopg [16, 17] (n - i) (fun gk sm si wr3 => ∃ (j M e : Nat), j + gk = n - i ∧ e = i + j ∧ si = .int .i64 (e : Int) ∧ sm = .int .i64 (M : Int) ∧ M = 2 ^ j ∧ wr3 = w5)
              case atStart => exact ⟨0, 1, i, by omega, rfl, rfl, rfl, rfl, rfl⟩
              case round =>
                obtain ⟨j, M, e, hj, he, rfl, rfl, hM, rfl⟩ := hrel
                have hM15 : M ≤ 32768 := by rw [hM]; exact Nat.le_trans (Nat.pow_le_pow_right (by decide) (show j ≤ 15 by omega)) (by decide)
                by_cases hen : e < n
                · have HM2 : Hid (2 * M = 2 ^ (j + 1)) := by show _ = _; rw [hM, Nat.pow_succ, Nat.mul_comm]
                  clear hM
                  go_wp2
                  go_roundg (gk - 1)
                  case measure => omega
                  case rel => exact ⟨j + 1, 2 * M, e + 1, by omega, by omega, by go_num, by go_num, HM2.out, rfl⟩
                · obtain rfl : j = n - i := by omega
                  have HA3 : Hid (all + M = Z + dsum i (Q.take (x + 1))) := by show _ = _; rw [hM]; exact HA2.out
                  clear hM
                  go_wp2
                  go_roundg (GK - 1)
                  case measure => omega
                  case rel => exact ⟨x + 1, all + M, by omega, by go_num, by go_num, HA3.out, HB6.out⟩
          · obtain rfl : x = Z := by omega
            have HS5 := Lib.hid (HSZ.out wr (by have := HAL.out; omega) HB5.out)
            rw [← HAL.out] at HS5
            have hee : ((all : Int) == (all : Int)) = true := by simp
            go_wp2_with (first
              | (go_at_call 18; refine HS5.out.mono ?_; rintro e w6 ⟨rfl, hb6⟩; have HB6 : Hid (Below w.heap.size w w6) := (HB4.out.trans (HB5.out.mono HB4.out.size)).trans (hb6.mono (HB4.out.trans (HB5.out.mono HB4.out.size)).size); clear hb6)
              | (go_at_call 10; refine (HLV.out _).mono ?_; rintro e w7 ⟨rfl, hb7⟩; have HB7 := Lib.hid hb7; clear hb7))
            go_ret
            exact ⟨rfl, HB6.out.trans (HB7.out.mono HB6.out.size)⟩
end Go.Proofs.Ytnobeipabfdkjaa
