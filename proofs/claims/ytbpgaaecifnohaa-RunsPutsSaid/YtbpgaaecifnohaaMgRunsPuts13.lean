/- Layer 8: may lengths be a code: the reference's. -/
import Derived.Test.YtbpgaaecifnohaaMgRunsPuts12
namespace Go.Proofs.Ytbpgaaecifnohaa
open Go.RowKit

def r7B (zs : List Int) : Bool := decide (zs.length ≤ 320) && zs.all lenB
set_option maxHeartbeats 1000000 in
theorem ref7Right_any (A : Option Addr) (l c : Nat) (zs : List Int) (B : Nat) (w : World) (hl : zs.length = l) (hm : l ≤ 1099511627776) (hb : Cells w B A (zs.map ic)) :
    Calls Try.prog 9 #[.slice A l c, .int .i64 15] w fun e w' => e = .returned (.bool (r7B zs)) ∧ w = w' := by
  have HC := Lib.hid hb
  have HL := Lib.hid hl
  have HFD : Hid (r7B zs = (decide (zs.length ≤ 320) && zs.all lenB)) := rfl
  clear hb hl
  go_enter Try.func9, Try.ntmps9
  go_wp2
  go_loopg [5] l (fun gk i wr => ∃ k : Nat, k + gk = l ∧ i = .int .i64 k ∧ wr = w ∧ ∀ j x, j < k → zs[j]? = some x → lenB x = true)
  case atStart => exact ⟨0, by omega, rfl, rfl, fun j _ h => absurd h (Nat.not_lt_zero j)⟩
  case round =>
    obtain ⟨k, hk, rfl, rfl, hall⟩ := hrel
    have HALL := Lib.hid hall
    clear hall
    by_cases h : k < l
    · obtain ⟨x, hx⟩ : ∃ x, zs[k]? = some x := ⟨_, List.getElem?_eq_getElem (by have := HL.out; omega)⟩
      obtain ⟨b, o, rfl, hbB, hc⟩ := HC.out (by rw [List.length_map, HL.out]; omega)
      have c0 : wr.cell? ⟨b, o + k, none⟩ = some (.int .i64 x) := hc k _ (by rw [List.getElem?_map, hx]; rfl)
      have HX := Lib.hid hx
      clear hc hx
      by_cases hx0 : x < 0
      · have HF : Hid (r7B zs = false) := by show _ = _; rw [HFD.out, all_bad HX.out (by simp [lenB]; omega), Bool.and_false]
        go_wp2
        go_ret
        exact ⟨by rw [HF.out]; rfl, rfl⟩
      by_cases hx1 : 15 < x
      · have HF : Hid (r7B zs = false) := by show _ = _; rw [HFD.out, all_bad HX.out (by simp [lenB]; omega), Bool.and_false]
        go_wp2
        go_ret
        exact ⟨by rw [HF.out]; rfl, rfl⟩
      · have HQ : Hid (lenB x = true) := by show _ = _; simp [lenB]; omega
        go_wp2
        go_roundg (gk - 1)
        case measure => omega
        case rel => exact ⟨k + 1, by omega, by go_num, rfl, fun j y hj hy => by
            by_cases e : j = k
            · subst e
              rw [HX.out] at hy
              injection hy with hy
              subst hy
              exact HQ.out
            · exact HALL.out j y (by omega) hy⟩
    · obtain rfl : k = l := by omega
      have HA : Hid (zs.all lenB = true) := all_good (fun j x hj hx => HALL.out j x (by have := HL.out; omega) hx)
      have HF : Hid (r7B zs = decide ((k : Int) < 321)) := by
        show _ = _
        rw [HFD.out, HA.out, HL.out, Bool.and_true]
        simp; omega
      go_wp2
      go_ret
      exact ⟨by rw [HF.out]; rfl, rfl⟩

set_option maxHeartbeats 2000000 in
theorem ref7Sum_any (A : Option Addr) (l c : Nat) (zs : List Int) (B : Nat) (w : World) (hl : zs.length = l) (hm : l ≤ 1000) (hb : Cells w B A (zs.map ic)) (hok : ∀ x ∈ zs, lenB x = true) :
    Calls Try.prog 66 #[.slice A l c] w fun e w' => e = .returned (.int .i64 (wsum zs : Nat)) ∧ w = w' := by
  have HC := Lib.hid hb
  have HL := Lib.hid hl
  have HOK := Lib.hid hok
  have HWL : Hid (∀ k, wsum (zs.take k) ≤ 1000 * 32768) := fun k => Nat.le_trans (wsum_le _) (Nat.mul_le_mul_right _ (by rw [List.length_take]; omega))
  clear hb hl hok
  go_enter Try.func66, Try.ntmps66
  go_wp2
  go_loopg [3, 4] l (fun gk v i wr => ∃ k : Nat, k + gk = l ∧ i = .int .i64 k ∧ v = .int .i64 (wsum (zs.take k) : Nat) ∧ wr = w)
  case atStart => exact ⟨0, by omega, rfl, rfl, rfl⟩
  case round =>
    obtain ⟨k, hk, rfl, rfl, rfl⟩ := hrel
    have hw1 := HWL.out k
    by_cases h : k < l
    · obtain ⟨x, hx⟩ : ∃ x, zs[k]? = some x := ⟨_, List.getElem?_eq_getElem (by have := HL.out; omega)⟩
      obtain ⟨b, o, rfl, hbB, hc⟩ := HC.out (by rw [List.length_map, HL.out]; omega)
      have c0 : wr.cell? ⟨b, o + k, none⟩ = some (.int .i64 x) := hc k _ (by rw [List.getElem?_map, hx]; rfl)
      obtain ⟨hx0, hx1⟩ := lenB_yes (HOK.out x (List.mem_of_getElem? hx))
      have HS := Lib.hid (wsum_snoc hx)
      have hw2 := HWL.out (k + 1)
      clear hc hx
      by_cases hxz : x = 0
      · have hwt : wt x = 0 := if_neg (by omega)
        rw [hwt] at HS
        have hd : (x == 0) = true := by simp [hxz]
        clear hwt hxz
        go_wp2
        go_roundg (gk - 1)
        case measure => omega
        case rel => exact ⟨k + 1, by omega, by go_num, by rw [HS.out, Nat.add_zero], rfl⟩
      · have hd : (x == 0) = false := by simp [hxz]
        obtain ⟨n, rfl⟩ := Int.eq_ofNat_of_zero_le hx0
        have hwt : wt (n : Int) = 2 ^ (15 - n) := by unfold wt; rw [if_pos (by omega), Int.toNat_natCast]
        rw [HS.out] at hw2
        rw [hwt] at HS hw2
        have hn1 : 1 ≤ n := by omega
        have hn15 : n ≤ 15 := by omega
        obtain ⟨t, ht⟩ : ∃ t, wsum (zs.take k) = t := ⟨_, rfl⟩
        rw [ht] at hw1 hw2 HS
        rw [ht]
        have HZ := Lib.hid hxz
        clear hwt ht hxz
        obtain ⟨G, hG⟩ : ∃ G, gk = G := ⟨_, rfl⟩
        rw [hG] at hk
        go_wp2
        go_loopg [5, 6] (15 - n) (fun g2 p i wr2 => ∃ j : Nat, j + g2 = 15 ∧ n ≤ j ∧ i = .int .i64 j ∧ p = .int .i64 ((2 ^ (j - n) : Nat) : Int) ∧ wr2 = wr)
        case atStart => exact ⟨n, by omega, Nat.le_refl _, rfl, by rw [Nat.sub_self]; rfl, rfl⟩
        case round =>
          obtain ⟨j, hj, hnj, rfl, rfl, rfl⟩ := hrel
          have hpj : 2 ^ (j - n) ≤ 32768 := Nat.le_trans (Nat.pow_le_pow_right (by decide) (by omega : j - n ≤ 15)) (by decide)
          by_cases hj15 : j < 15
          · have HP : Hid (2 ^ (j + 1 - n) = 2 ^ (j - n) * 2) := by show _ = _; rw [show j + 1 - n = (j - n) + 1 by omega, Nat.pow_succ]
            generalize 2 ^ (j - n) = p at *
            go_wp2
            go_roundg (gk - 1)
            case measure => omega
            case rel => exact ⟨j + 1, by omega, by omega, by go_num, by rw [HP.out]; go_num, rfl⟩
          · obtain rfl : j = 15 := by omega
            generalize 2 ^ (15 - n) = p at *
            go_wp2
            go_roundg (G - 1)
            case measure => omega
            case rel => exact ⟨k + 1, by omega, by go_num, by rw [HS.out]; go_num, rfl⟩
    · obtain rfl : k = l := by omega
      have ht : zs.take k = zs := List.take_of_length_le (by have := HL.out; omega)
      rw [ht]
      go_wp2
      go_ret
      exact ⟨rfl, rfl⟩
end Go.Proofs.Ytbpgaaecifnohaa
/- Layer 8: the order of the symbols; the reference's Right. -/
namespace Go.Proofs.Ytbpgaaecifnohaa
open Go.RowKit

theorem intElem : Elem Try.prog 22 3 (.int .i64 0) 1 8 := Elem.of Try.underlying22 (by kernel_rfl) rfl (by omega)
def nc (s : Nat) : Value := ic (s : Int)
/-- The symbols of a length, ahead of a place. -/
def ixs (zs : List Int) (n s : Nat) : List Nat := (List.range s).filter fun t => decide (zs[t]? = some (n : Int))
/-- .. of all lengths up to one. -/
def whole (zs : List Int) : Nat → List Nat
  | 0 => []
  | m + 1 => whole zs m ++ ixs zs (m + 1) zs.length
def ordN (zs : List Int) (n s : Nat) : List Nat := whole zs (n - 1) ++ ixs zs n s
theorem ordN_zero (zs : List Int) (n : Nat) : ordN zs n 0 = whole zs (n - 1) := by simp [ordN, ixs]
theorem ordN_all (zs : List Int) (n : Nat) (h : 1 ≤ n) : ordN zs n zs.length = whole zs n := by
  obtain ⟨m, rfl⟩ : ∃ m, n = m + 1 := ⟨n - 1, by omega⟩
  rfl
theorem ordN_yes {zs : List Int} {n s : Nat} (h : zs[s]? = some (n : Int)) : ordN zs n (s + 1) = ordN zs n s ++ [s] := by
  unfold ordN ixs
  rw [List.range_succ, List.filter_append, List.append_assoc]
  congr 1
  simp [h]
theorem ordN_no {zs : List Int} {n s : Nat} {x : Int} (h : zs[s]? = some x) (hx : x ≠ n) : ordN zs n (s + 1) = ordN zs n s := by
  unfold ordN ixs
  rw [List.range_succ, List.filter_append]
  congr 1
  simp [h, hx]
theorem ixs_len (zs : List Int) (n s : Nat) : (ixs zs n s).length ≤ s := Nat.le_trans (List.length_filter_le _ _) (by simp)
theorem whole_len (zs : List Int) : ∀ m, (whole zs m).length ≤ m * zs.length
  | 0 => by simp [whole]
  | m + 1 => by
    have h1 := whole_len zs m
    have h2 := ixs_len zs (m + 1) zs.length
    rw [whole, List.length_append, Nat.succ_mul]
    omega
theorem ordN_len (zs : List Int) (n s : Nat) (h1 : 1 ≤ n) (h2 : n ≤ 15) (hs : s ≤ zs.length) : (ordN zs n s).length ≤ 15 * zs.length := by
  have h3 := whole_len zs (n - 1)
  have h4 := ixs_len zs n s
  have h5 : (n - 1) * zs.length + zs.length ≤ 15 * zs.length := by
    rw [← Nat.succ_mul]; exact Nat.mul_le_mul_right _ (by omega)
  rw [ordN, List.length_append]
  omega
theorem whole_mem {zs : List Int} : ∀ {m s : Nat}, s ∈ whole zs m → ∃ n : Nat, zs[s]? = some (n : Int) ∧ 1 ≤ n ∧ n ≤ m
  | 0, _, h => by simp [whole] at h
  | m + 1, s, h => by
    rw [whole, List.mem_append] at h
    rcases h with h | h
    · obtain ⟨n, h1, h2, h3⟩ := whole_mem h
      exact ⟨n, h1, h2, by omega⟩
    · simp only [ixs, List.mem_filter, decide_eq_true_eq] at h
      exact ⟨m + 1, h.2, by omega, Nat.le_refl _⟩
theorem whole_has {zs : List Int} {s n : Nat} (h : zs[s]? = some (n : Int)) (h1 : 1 ≤ n) : ∀ {m : Nat}, n ≤ m → s ∈ whole zs m
  | 0, h2 => by omega
  | m + 1, h2 => by
    rw [whole, List.mem_append]
    by_cases e : n = m + 1
    · right
      subst e
      simp only [ixs, List.mem_filter, decide_eq_true_eq, List.mem_range]
      exact ⟨(List.getElem?_eq_some_iff.1 h).1, h⟩
    · exact .inl (whole_has h h1 (by omega))
def ltx (zs : List Int) (s t : Nat) : Prop := zs.getD s 0 < zs.getD t 0 ∨ (zs.getD s 0 = zs.getD t 0 ∧ s < t)
theorem getD_of {zs : List Int} {s : Nat} {n : Int} (h : zs[s]? = some n) : zs.getD s 0 = n := by simp [List.getD, h]
theorem whole_sorted (zs : List Int) : ∀ m, (whole zs m).Pairwise (ltx zs)
  | 0 => by simp [whole]
  | m + 1 => by
    rw [whole, List.pairwise_append]
    refine ⟨whole_sorted zs m, ?_, fun a ha b hb => ?_⟩
    · have : (ixs zs (m + 1) zs.length).Pairwise (· < ·) := List.Pairwise.filter _ List.pairwise_lt_range
      refine this.imp_of_mem fun {a b} ha hb hab => .inr ⟨?_, hab⟩
      simp only [ixs, List.mem_filter, decide_eq_true_eq] at ha hb
      rw [getD_of ha.2, getD_of hb.2]
    · obtain ⟨n, h1, h2, h3⟩ := whole_mem ha
      simp only [ixs, List.mem_filter, decide_eq_true_eq] at hb
      left
      rw [getD_of h1, getD_of hb.2]
      omega
/-- The symbols in their order. -/
def ordL (zs : List Int) : List Nat := whole zs 15
theorem nc_one (os : List Nat) : ∀ u ∈ os.map nc, u.oneCell' = true := fun u hu => by
  obtain ⟨s, _, rfl⟩ := List.mem_map.1 hu
  rfl

set_option maxHeartbeats 1000000 in
theorem order_any (A : Option Addr) (l c : Nat) (zs : List Int) (B : Nat) (w : World) (hl : zs.length = l) (hm : l ≤ 1000) (hb : Cells w B A (zs.map ic)) (hB : B ≤ w.heap.size) :
    Calls Try.prog 58 #[.slice A l c] w fun e w' => ∃ A' c', e = .returned (.slice A' (ordL zs).length c') ∧
      w'.ownsRow w.heap.size 3 1 (.slice A' (ordL zs).length c') (ordL zs).length ((ordL zs).map nc) ∧ Below w.heap.size w w' := by
  have HC := Lib.hid hb
  have HL := Lib.hid hl
  have HB := Lib.hid hB
  clear hb hl hB
  go_enter Try.func58, Try.ntmps58
  go_wp2
  go_loopg [3, 4] 15 (fun gk v i wr => ∃ (n : Nat) (Ak : Option Addr) (ck : Nat), n + gk = 16 ∧ 1 ≤ n ∧ i = .int .i64 n ∧ v = .slice Ak (whole zs (n - 1)).length ck ∧
    wr.ownsRow w.heap.size 3 1 v (whole zs (n - 1)).length ((whole zs (n - 1)).map nc) ∧ Below w.heap.size w wr)
  case atStart => exact ⟨1, none, 0, by omega, Nat.le_refl _, rfl, rfl, World.ownsRow_nil _ _ _ _, Below.refl _ _⟩
  case round =>
    obtain ⟨n, Ak, ck, hn, hn1, rfl, rfl, ho, hb⟩ := hrel
    by_cases h : n ≤ 15
    · have hd : decide ((n : Int) ≤ 15) = true := by simp; omega
      obtain ⟨G, hG⟩ : ∃ G, gk = G := ⟨_, rfl⟩
      rw [hG] at hn
      have HO := Lib.hid ho
      have HBE := Lib.hid hb
      clear ho hb
      go_wp2
      go_loopg [3, 13] l (fun gk v i w2 => ∃ (k : Nat) (A2 : Option Addr) (c2 : Nat), k + gk = l ∧ i = .int .i64 k ∧ v = .slice A2 (ordN zs n k).length c2 ∧
        w2.ownsRow w.heap.size 3 1 v (ordN zs n k).length ((ordN zs n k).map nc) ∧ Below w.heap.size w w2)
      case atStart => exact ⟨0, Ak, ck, by omega, rfl, by rw [ordN_zero], by rw [ordN_zero]; exact HO.out, HBE.out⟩
      case round =>
        obtain ⟨k, A2, c2, hk, rfl, rfl, ho2, hb2⟩ := hrel
        have HO2 := Lib.hid ho2
        have HB2 := Lib.hid hb2
        clear ho2 hb2 HO HBE
        by_cases hkl : k < l
        · obtain ⟨x, hx⟩ : ∃ x, zs[k]? = some x := ⟨_, List.getElem?_eq_getElem (by have := HL.out; omega)⟩
          obtain ⟨b, o, rfl, hbB, hc⟩ := (HC.out.below HB2.out HB.out) (by rw [List.length_map, HL.out]; omega)
          have c0 : wr.cell? ⟨b, o + k, none⟩ = some (.int .i64 x) := hc k _ (by rw [List.getElem?_map, hx]; rfl)
          have HX := Lib.hid hx
          clear hc hx
          have hlen := ordN_len zs n k hn1 h (by have := HL.out; omega)
          rw [HL.out] at hlen
          by_cases he : x = n
          · have hde : (x == (n : Int)) = true := by simp [he]
            subst he
            have HS := Lib.hid (ordN_yes HX.out)
            generalize ordN zs n k = L at *
            have hbs := HB2.out.size
            go_wp2_with (at_builtin; refine wpList_app1 _ intElem rfl (.tmp 21) (.tmp 23) rfl w.heap.size (.slice A2 L.length c2) L.length _ rfl HO2.out _ rfl rfl (by simp [Value.oneCell']) (by unfold maxLen; omega) (by omega) hbs ?_; intro A3 c3 w3 hA; have HA := Lib.hid hA; clear hA)
            go_roundg (gk - 1)
            case measure => omega
            case rel =>
              refine ⟨k + 1, A3, c3, by omega, by go_num, by rw [HS.out, List.length_append]; rfl, ?_, HA.out.below HB2.out hbs (own_base HO2.out)⟩
              have := HA.out.own
              rw [HS.out, List.length_append, List.map_append]
              exact this
          · have hde : (x == (n : Int)) = false := by simp [he]
            have HS := Lib.hid (ordN_no HX.out he)
            clear he
            go_wp2
            go_roundg (gk - 1)
            case measure => omega
            case rel => exact ⟨k + 1, A2, c2, by omega, by go_num, by rw [HS.out], by rw [HS.out]; exact HO2.out, HB2.out⟩
        · obtain rfl : k = l := by omega
          have HW : Hid (ordN zs n k = whole zs n) := by show _ = _; rw [← HL.out]; exact ordN_all zs n hn1
          rw [HW.out] at HO2 ⊢
          go_wp2
          go_roundg (G - 1)
          case measure => omega
          case rel => exact ⟨n + 1, A2, c2, by omega, by omega, by go_num, rfl, HO2.out, HB2.out⟩
    · obtain rfl : n = 16 := by omega
      go_wp2
      go_ret
      exact ⟨Ak, ck, rfl, ho, hb⟩

theorem caR_empty : caR [] = false := by decide
theorem caR_r7 (zs : List Int) : caR zs = (r7B zs && (decide (zs.sum = 1) || decide (wsum zs = 32768))) := by
  unfold caR r7B
  rw [Bool.or_comm (decide (wsum zs = 32768))]
set_option maxHeartbeats 1000000 in
theorem ref8Right_any (A : Option Addr) (l c : Nat) (zs : List Int) (B : Nat) (w : World) (hl : zs.length = l) (hm : l ≤ 1099511627776) (hb : Cells w B A (zs.map ic)) :
    Calls Try.prog 40 #[.slice A l c] w fun e w' => e = .returned (.bool (caR zs)) ∧ w = w' := by
  by_cases h0 : l = 0
  · subst h0
    have hz : zs = [] := List.eq_nil_of_length_eq_zero hl
    subst hz
    go_enter Try.func40, Try.ntmps40
    go_wp2
    go_ret
    exact ⟨rfl, rfl⟩
  have hl1 : decide ((l : Int) < 1) = false := by simp; omega
  have HR := Lib.hid (ref7Right_any A l c zs B w hl hm hb)
  cases hr : r7B zs with
  | false =>
    rw [hr] at HR
    have HF : Hid (caR zs = false) := by show _ = _; rw [caR_r7, hr]; rfl
    clear hr hb hl h0
    go_enter Try.func40, Try.ntmps40
    go_wp2_with (go_at_call 9; refine HR.out.mono ?_; rintro e w' ⟨rfl, rfl⟩)
    go_ret
    exact ⟨by rw [HF.out]; rfl, rfl⟩
  | true =>
    rw [hr] at HR
    have HF : Hid (caR zs = (decide (zs.sum = 1) || decide (wsum zs = 32768))) := by show _ = _; rw [caR_r7, hr, Bool.true_and]
    have hr' : zs.length ≤ 320 ∧ ∀ x ∈ zs, lenB x = true := by
      unfold r7B at hr
      rw [Bool.and_eq_true, decide_eq_true_eq, List.all_eq_true] at hr
      exact hr
    have HS := Lib.hid (ref7Sum_any A l c zs B w hl (by omega) hb hr'.2)
    have HLB := Lib.hid hr'.2
    have hl320 : l ≤ 320 := by omega
    have HC := Lib.hid hb
    have HL := Lib.hid hl
    clear hr hr' hb hl
    go_enter Try.func40, Try.ntmps40
    go_wp2_with (go_at_call 9; refine HR.out.mono ?_; rintro e w' ⟨rfl, rfl⟩)
    go_loopg [3, 4] l (fun gk v i wr => ∃ k : Nat, k + gk = l ∧ i = .int .i64 k ∧ v = .int .i64 (zs.take k).sum ∧ wr = w)
    case atStart => exact ⟨0, by omega, rfl, rfl, rfl⟩
    case round =>
      obtain ⟨k, hk, rfl, rfl, rfl⟩ := hrel
      have hbd := sum_bd (fun x hx => HLB.out x (List.mem_of_mem_take hx) : ∀ x ∈ zs.take k, _)
      rw [List.length_take, Nat.min_eq_left (by have := HL.out; omega)] at hbd
      by_cases h : k < l
      · obtain ⟨x, hx⟩ : ∃ x, zs[k]? = some x := ⟨_, List.getElem?_eq_getElem (by have := HL.out; omega)⟩
        obtain ⟨b, o, rfl, hbB, hc⟩ := HC.out (by rw [List.length_map, HL.out]; omega)
        have c0 : wr.cell? ⟨b, o + k, none⟩ = some (.int .i64 x) := hc k _ (by rw [List.getElem?_map, hx]; rfl)
        obtain ⟨hx0, hx1⟩ := lenB_yes (HLB.out x (List.mem_of_getElem? hx))
        have HS2 := Lib.hid (sum_snoc hx)
        clear hc hx
        generalize (zs.take k).sum = t at *
        go_wp2
        go_roundg (gk - 1)
        case measure => omega
        case rel => exact ⟨k + 1, by omega, by go_num, by rw [HS2.out], rfl⟩
      · obtain rfl : k = l := by omega
        have ht : zs.take k = zs := List.take_of_length_le (by have := HL.out; omega)
        rw [ht] at hbd ⊢
        clear ht
        generalize zs.sum = t at *
        generalize wsum zs = u at *
        by_cases hs : t = 1
        · subst hs
          go_wp2
          go_ret
          exact ⟨by rw [HF.out]; rfl, rfl⟩
        · have hd3 : (t == 1) = false := by simp [hs]
          rw [decide_eq_false hs, Bool.false_or] at HF
          have HE : Hid (((u : Int) == 32768) = decide (u = 32768)) := by show _ = _; rw [Bool.eq_iff_iff]; simp; omega
          clear hs
          go_wp2_with (go_at_call 66; refine HS.out.mono ?_; rintro e w' ⟨rfl, rfl⟩)
          go_ret
          exact ⟨by rw [HF.out, ← HE.out]; rfl, rfl⟩
end Go.Proofs.Ytbpgaaecifnohaa
