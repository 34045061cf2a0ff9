/- Layer 34, plainly: what a table takes. -/
import Derived.Test.YtnobeipabfdkjaaQkNew
namespace Go.Proofs.Ytnobeipabfdkjaa
open Go.RowKit BitsP

theorem allC_okay {zs : List Int} (hr : caR zs = true) : Okay (allC zs) := by
  have h := okay_dnK (zs := zs) hr (d := 14) (k := zs.length) (by omega)
  rwa [dnK_full] at h
theorem allC_mem {zs : List Int} {a : Cd} : a ∈ allC zs ↔ ∃ s n v k, Sym zs s n v k ∧ a = ⟨s, n, turnN v n⟩ := by
  unfold allC
  rw [List.mem_map]
  constructor
  · rintro ⟨s, hs, rfl⟩
    obtain ⟨n, h1, h2, h3⟩ := dnL_mem (by omega) hs
    obtain ⟨v, k, hy⟩ := sym_of h1 (by omega) h3
    exact ⟨s, n, v, k, hy, cd_sym hy⟩
  · rintro ⟨s, n, v, k, hy, rfl⟩
    exact ⟨s, dnL_has (by omega) hy.len (by have := hy.one; omega) hy.few, cd_sym hy⟩
/-- The bits that are left, and 0 behind them. -/
def padZ (U : List Bool) : List Bool := U ++ zeros 15
theorem padZ_len (U : List Bool) : (padZ U).length = U.length + 15 := by simp [padZ, zeros]
theorem num_zeros_take (n k : Nat) : num ((zeros n).take k) = 0 := by
  unfold zeros
  rw [List.take_replicate]
  exact num_zeros _
theorem num_pad (U : List Bool) (q : Nat) : num (U.take q) = num ((padZ U).take q) := by
  unfold padZ
  rw [List.take_append, num_append, num_zeros_take]
  omega
theorem num_pad15 (U : List Bool) {q : Nat} (hq : q ≤ 15) : num ((padZ U).take q) = num ((padZ U).take 15) % 2 ^ q := by
  have h := num_take ((padZ U).take 15) q
  rw [List.take_take, Nat.min_eq_left hq, p2_pow] at h
  exact h
theorem pad_take {U : List Bool} {n : Nat} (h : n ≤ U.length) : (padZ U).take n = U.take n := by
  unfold padZ
  rw [List.take_append_of_le_length h]
theorem take_pad_len {U : List Bool} {n : Nat} (h : n ≤ 15) : ((padZ U).take n).length = n := by
  rw [List.length_take, padZ_len]
  omega
/-- A symbol's code is what the bits, and 0 behind them, begin with. -/
def HitZ (U : List Bool) (n v : Nat) : Prop := hiN ((padZ U).take n) = v
theorem hit_num {zs : List Int} (hr : caR zs = true) {s n v k : Nat} (hy : Sym zs s n v k) {U : List Bool} : num ((padZ U).take n) = turnN v n ↔ HitZ U n v := by
  have hl : ((padZ U).take n).length = (codeB v n).length := by rw [take_pad_len hy.few, codeB_len]
  constructor
  · intro h
    have e : (padZ U).take n = codeB v n := num_inj hl h
    show hiN _ = _
    rw [e, hiN_code (hy.lt hr)]
  · intro h
    have h2 : num ((padZ U).take n).reverse = num (codeB v n).reverse := by
      have h3 : hiN ((padZ U).take n) = hiN (codeB v n) := by rw [hiN_code (hy.lt hr)]; exact h
      exact h3
    have e := num_inj (by rw [List.length_reverse, List.length_reverse, hl]) h2
    rw [List.reverse_inj.1 e]
    rfl
theorem hit_one {zs : List Int} {U : List Bool} {s n v k s' n' v' k' : Nat} (hy : Sym zs s n v k) (h : HitZ U n v) (hy' : Sym zs s' n' v' k') (h' : HitZ U n' v') : s = s' := by
  have hf := hy.few
  have hf' := hy'.few
  have hl := padZ_len U
  rcases Nat.le_total n n' with hle | hle
  · refine hy.apart hy' hle ?_
    have := hiN_take (U := padZ U) (n := n) (n' - n) (by omega)
    rw [show n + (n' - n) = n' by omega] at this
    have e1 : hiN ((padZ U).take n) = v := h
    have e2 : hiN ((padZ U).take n') = v' := h'
    rw [e1, e2] at this
    exact this
  · refine (hy'.apart hy hle ?_).symm
    have := hiN_take (U := padZ U) (n := n') (n - n') (by omega)
    rw [show n' + (n - n') = n by omega] at this
    have e1 : hiN ((padZ U).take n) = v := h
    have e2 : hiN ((padZ U).take n') = v' := h'
    rw [e1, e2] at this
    exact this
/-- No code is what they begin with. -/
def NoHitZ (zs : List Int) (U : List Bool) : Prop := ∀ s n v k, Sym zs s n v k → ¬ HitZ U n v
theorem takeR_hit {zs : List Int} {m : Nat} {U : List Bool} {s n v k : Nat} (hy : Sym zs s n v k) (h : HitZ U n v) (hn : n ≤ U.length) : TakeR zs m U s 0 n :=
  .inl ⟨s, v, k, hy, hn, by rw [← pad_take hn]; exact h, rfl, rfl⟩
theorem takeR_end {zs : List Int} {m : Nat} (hm : isMax zs (m : Int)) {U : List Bool} {s n v k : Nat} (hy : Sym zs s n v k) (h : HitZ U n v) (hn : ¬ n ≤ U.length) : TakeR zs m U 0 2 0 := by
  refine .inr ⟨rfl, rfl, fun n' h1 h2 h3 s' v' k' hy' e => ?_, ?_⟩
  · have h' : HitZ U n' v' := by show hiN _ = _; rw [pad_take h3]; exact e
    have hs := hit_one hy h hy' h'
    have := (hy.one_val hy' hs).1
    omega
  · rw [if_pos (by have := hy.at_le hm; omega)]
theorem osum_full {zs : List Int} (hr : caR zs = true) : osum zs ((ordL zs).take (ordL zs).length) = wsum zs := by rw [List.take_length, osum_all (caR_len hr).2]
/-- Where a number lies among the codes one is what bits begin with. -/
theorem cover_hit {zs : List Int} (hr : caR zs = true) {U : List Bool} (h : hiN ((padZ U).take 15) < wsum zs) : ∃ s n v k, Sym zs s n v k ∧ HitZ U n v := by
  obtain ⟨t, n, v, k, hy, h1, h2⟩ := cover (zs := zs) (x := hiN ((padZ U).take 15)) _ (Nat.le_refl _) (by rw [osum_full hr]; exact h)
  refine ⟨t, n, v, k, hy, ?_⟩
  have hf := hy.few
  have hl := padZ_len U
  have h3 := hiN_take (U := padZ U) (n := n) (15 - n) (by omega)
  rw [show n + (15 - n) = 15 by omega] at h3
  show hiN _ = _
  rw [← h3]
  exact Nat.div_eq_of_lt_le h1 h2
theorem alone_max {zs : List Int} {m : Nat} (hr : caR zs = true) (hs : zs.sum = 1) (hm : isMax zs (m : Int)) : m ≤ 1 := by
  have h := alone_iff (List.all_eq_true.2 (caR_len hr).2) hs
  have := List.all_eq_true.1 h _ hm.2
  simp [zobB] at this
  omega
theorem alone_pos {zs : List Int} (hr : caR zs = true) (hs : zs.sum = 1) : 0 < wsum zs := by
  have h := wsum_zob (alone_iff (List.all_eq_true.2 (caR_len hr).2) hs)
  omega
theorem hiN_zeros : hiN ((padZ []).take 15) = 0 := by decide
theorem takeR_no {zs : List Int} {m : Nat} (hr : caR zs = true) (hm : isMax zs (m : Int)) {U : List Bool} (h : NoHitZ zs U) : TakeR zs m U 0 13 0 := by
  refine .inr ⟨rfl, rfl, fun n h1 h2 h3 s v k hy e => h s n v k hy (by show hiN _ = _; rw [pad_take h3]; exact e), ?_⟩
  rw [if_neg]
  intro hlt
  have hx : ¬ hiN ((padZ U).take 15) < wsum zs := fun hx => by
    obtain ⟨s, n, v, k, hy, hh⟩ := cover_hit hr hx
    exact h s n v k hy hh
  have h15 := hiN_lt ((padZ U).take 15)
  rw [take_pad_len (Nat.le_refl _), show (2 : Nat) ^ 15 = 32768 by decide] at h15
  have hw : wsum zs ≠ 32768 := fun e => hx (by omega)
  have hc := hr
  rw [caR_r7] at hc
  have hsum : zs.sum = 1 := by
    simp only [Bool.and_eq_true, Bool.or_eq_true, decide_eq_true_eq] at hc
    rcases hc.2 with h | h
    · exact h
    · exact absurd h hw
  have hone := alone_max hr hsum hm
  have hU : U = [] := List.length_eq_zero_iff.1 (by omega)
  rw [hU, hiN_zeros] at hx
  exact absurd (alone_pos hr hsum) (by omega)
theorem takeR_fun {zs : List Int} {m : Nat} (hm : isMax zs (m : Int)) {U : List Bool} {s e s' e' : Int} {on on' : Nat} (h : TakeR zs m U s e on) (h' : TakeR zs m U s' e' on') : s = s' ∧ e = e' ∧ on = on' := by
  have one : ∀ {s e s' e' : Int} {on on' : Nat}, (∃ t v k : Nat, Sym zs t on v k ∧ on ≤ U.length ∧ hiN (U.take on) = v ∧ s = (t : Int) ∧ e = 0) → ¬ (s' = 0 ∧ on' = 0 ∧ (∀ n, 1 ≤ n → n ≤ m → n ≤ U.length → noHit zs (hiN (U.take n)) n) ∧ e' = if U.length < m then 2 else 13) := by
    rintro s e s' e' on on' ⟨t, v, k, hy, hl, hv, _, _⟩ ⟨_, _, hno, _⟩
    exact hno _ hy.one (hy.at_le hm) hl t v k hy hv
  rcases h with h | h <;> rcases h' with h' | h'
  · obtain ⟨t, v, k, hy, hl, hv, rfl, rfl⟩ := h
    obtain ⟨t', v', k', hy', hl', hv', rfl, rfl⟩ := h'
    have hs := hit_one (U := U) hy (by show hiN _ = _; rw [pad_take hl]; exact hv) hy' (by show hiN _ = _; rw [pad_take hl']; exact hv')
    exact ⟨by rw [hs], rfl, (hy.one_val hy' hs).1⟩
  · exact absurd h' (one h)
  · exact absurd h (one h')
  · exact ⟨h.1.trans h'.1.symm, h.2.2.2.trans h'.2.2.2.symm, h.2.1.trans h'.2.1.symm⟩
theorem div_mod_cut (X : Nat) {W n : Nat} (h : W ≤ n) : X % 2 ^ n / 2 ^ W = X / 2 ^ W % 2 ^ (n - W) := by
  have e : 2 ^ n = 2 ^ W * 2 ^ (n - W) := by rw [← Nat.pow_add]; congr 1; omega
  have hp := Nat.two_pow_pos W
  rw [e, Nat.mod_mul, Nat.add_mul_div_left _ _ hp, Nat.div_eq_of_lt (Nat.mod_lt _ hp), Nat.zero_add]
/-- What the row of the next bits tells. -/
theorem row_says {zs : List Int} (hr : caR zs = true) {W : Nat} (hW : W ≤ 15) (U : List Bool) :
    (∃ s n v k, (qF W (allC zs)).rows[num (U.take W)]? = some (s, n, false) ∧ Sym zs s n v k ∧ HitZ U n v) ∨
    ((qF W (allC zs)).rows[num (U.take W)]? = some r0 ∧ NoHitZ zs U) ∨
    (∃ n L, (qF W (allC zs)).rows[num (U.take W)]? = some (0, n, true) ∧ W < n ∧ n ≤ 15 ∧ (qF W (allC zs)).more (num (U.take W)) = some L ∧ L.length = 2 ^ (n - W) ∧ num (U.take n) / 2 ^ W < L.length ∧
      ((∃ s n' v k, L[num (U.take n) / 2 ^ W]? = some (s, n', false) ∧ Sym zs s n' v k ∧ HitZ U n' v) ∨ (L[num (U.take n) / 2 ^ W]? = some r0 ∧ NoHitZ zs U))) := by
  have hs := spec_qF W (allC zs) (allC_okay hr)
  obtain ⟨q, hq⟩ : ∃ q, qF W (allC zs) = q := ⟨_, rfl⟩
  rw [hq] at hs ⊢
  obtain ⟨X, hX⟩ : ∃ X, num ((padZ U).take 15) = X := ⟨_, rfl⟩
  have hn : ∀ n, n ≤ 15 → num ((padZ U).take n) = X % 2 ^ n := fun n h => by rw [num_pad15 U h, hX]
  have hx : num (U.take W) = X % 2 ^ W := by rw [num_pad, hn W hW]
  rw [hx]
  have hxl : X % 2 ^ W < 2 ^ W := Nat.mod_lt _ (Nat.two_pow_pos W)
  have hitC : ∀ {s n v k}, Sym zs s n v k → (X % 2 ^ n = turnN v n ↔ HitZ U n v) := fun hy => by rw [← hn _ hy.few]; exact hit_num hr hy
  by_cases hA : ∃ a ∈ allC zs, a.n ≤ W ∧ X % 2 ^ W % 2 ^ a.n = a.t
  · obtain ⟨a, ha, haW, hat⟩ := hA
    have hrow := hs.low a ha haW _ hxl hat
    obtain ⟨s, n, v, k, hy, rfl⟩ := allC_mem.1 ha
    dsimp only at haW hat hrow
    rw [mod_mod_pow haW] at hat
    exact .inl ⟨s, n, v, k, hrow, hy, (hitC hy).1 hat⟩
  · have hAn : ∀ a ∈ allC zs, a.n ≤ W → X % 2 ^ W % 2 ^ a.n ≠ a.t := fun a ha h e => hA ⟨a, ha, h, e⟩
    by_cases hD : ∃ a ∈ allC zs, a.deepAt W (X % 2 ^ W)
    · obtain ⟨a0, h0, hd0, hmax, hrow, L, hL, hLl, hbh⟩ := hs.deep _ hxl hD
      have h15 := (allC_okay hr).bd a0 h0
      have hy0 : num (U.take a0.n) / 2 ^ W = X / 2 ^ W % 2 ^ (a0.n - W) := by rw [num_pad, hn _ h15.2.1, div_mod_cut X (Nat.le_of_lt hd0.1)]
      have hyl : X / 2 ^ W % 2 ^ (a0.n - W) < L.length := by rw [hLl]; exact Nat.mod_lt _ (Nat.two_pow_pos _)
      have hcut : ∀ a ∈ allC zs, a.deepAt W (X % 2 ^ W) → X / 2 ^ W % 2 ^ (a0.n - W) % 2 ^ (a.n - W) = X / 2 ^ W % 2 ^ (a.n - W) := fun a ha hd => mod_mod_pow (by have := hmax a ha hd; omega)
      refine .inr (.inr ⟨a0.n, L, hrow, hd0.1, h15.2.1, hL, hLl, by rw [hy0]; exact hyl, ?_⟩)
      rw [hy0]
      by_cases hB : ∃ a ∈ allC zs, a.deepAt W (X % 2 ^ W) ∧ X / 2 ^ W % 2 ^ (a0.n - W) % 2 ^ (a.n - W) = a.t / 2 ^ W
      · obtain ⟨a, ha, hda, hat⟩ := hB
        have hrw := hbh.hit a ha hda _ hyl hat
        rw [hcut a ha hda] at hat
        obtain ⟨s, n, v, k, hy, rfl⟩ := allC_mem.1 ha
        obtain ⟨hd1, hd2⟩ := hda
        dsimp only at hd1 hd2 hat hrw
        refine .inl ⟨s, n, v, k, hrw, hy, (hitC hy).1 ?_⟩
        have e1 := Nat.div_add_mod (X % 2 ^ n) (2 ^ W)
        have e2 := Nat.div_add_mod (turnN v n) (2 ^ W)
        rw [div_mod_cut X (Nat.le_of_lt hd1), hat, mod_mod_pow (Nat.le_of_lt hd1), ← hd2] at e1
        exact e1.symm.trans e2
      · have hrw := hbh.miss _ hyl fun a ha hd e => hB ⟨a, ha, hd, e⟩
        refine .inr ⟨hrw, fun s n v k hy hh => ?_⟩
        have ha : (⟨s, n, turnN v n⟩ : Cd) ∈ allC zs := allC_mem.2 ⟨s, n, v, k, hy, rfl⟩
        have hat := (hitC hy).2 hh
        by_cases hnW : n ≤ W
        · exact hAn _ ha hnW (by dsimp only; rw [mod_mod_pow hnW]; exact hat)
        · have hda : Cd.deepAt W (X % 2 ^ W) ⟨s, n, turnN v n⟩ := ⟨by dsimp only; omega, by dsimp only; rw [← hat, mod_mod_pow (by omega)]⟩
          exact hB ⟨_, ha, hda, by rw [hcut _ ha hda]; dsimp only; rw [← hat, div_mod_cut X (by omega)]⟩
    · have hDn : ∀ a ∈ allC zs, ¬ a.deepAt W (X % 2 ^ W) := fun a ha h => hD ⟨a, ha, h⟩
      refine .inr (.inl ⟨hs.none_ _ hxl hDn hAn, fun s n v k hy hh => ?_⟩)
      have ha : (⟨s, n, turnN v n⟩ : Cd) ∈ allC zs := allC_mem.2 ⟨s, n, v, k, hy, rfl⟩
      have hat := (hitC hy).2 hh
      by_cases hnW : n ≤ W
      · exact hAn _ ha hnW (by dsimp only; rw [mod_mod_pow hnW]; exact hat)
      · exact hDn _ ha ⟨by dsimp only; omega, by dsimp only; rw [← hat, mod_mod_pow (by omega)]⟩
end Go.Proofs.Ytnobeipabfdkjaa
