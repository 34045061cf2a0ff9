/- Layer 34, plainly: the rows of a table. -/
import Derived.Test.YtnobeipabfdkjaaRows
import Derived.WalkKit
namespace Go.Proofs.Ytnobeipabfdkjaa

/-- A row: the symbol, the length, whether it is deep. -/
abbrev R3 := Nat × Nat × Bool
def r0 : R3 := (0, 0, false)
/-- A row for all numbers whose lowest n bits are t's. -/
def spreadL (rows : List R3) (t n : Nat) (r : R3) : List R3 := (List.range rows.length).map fun x => if x % 2 ^ n = t then r else rows.getD x r0
theorem spreadL_len (rows : List R3) (t n : Nat) (r : R3) : (spreadL rows t n r).length = rows.length := by simp [spreadL]
theorem spreadL_hit {rows : List R3} {t n x : Nat} {r : R3} (hx : x < rows.length) (h : x % 2 ^ n = t) : (spreadL rows t n r)[x]? = some r := by
  unfold spreadL
  rw [List.getElem?_map, List.getElem?_range hx]
  show some (if x % 2 ^ n = t then r else _) = _
  rw [if_pos h]
theorem spreadL_miss {rows : List R3} {t n x : Nat} {r : R3} (hx : x < rows.length) (h : x % 2 ^ n ≠ t) : (spreadL rows t n r)[x]? = rows[x]? := by
  unfold spreadL
  rw [List.getElem?_map, List.getElem?_range hx]
  show some (if x % 2 ^ n = t then r else _) = _
  rw [if_neg h, List.getD, List.getElem?_eq_getElem hx]
  rfl
/-- A table: its rows, and those behind each that is deep. -/
structure QS where
  rows : List R3
  more : Nat → Option (List R3)
/-- A code is added: of symbol s, of n bits, read as the number t. -/
def QS.add (w : Nat) (q : QS) (t s n : Nat) : QS :=
  if n ≤ w then ⟨spreadL q.rows t n (s, n, false), q.more⟩
  else if q.rows.getD (t % 2 ^ w) r0 = r0 then
    ⟨q.rows.set (t % 2 ^ w) (0, n, true), fun y => if y = t % 2 ^ w then some (spreadL (List.replicate (2 ^ (n - w)) r0) (t / 2 ^ w) (n - w) (s, n, false)) else q.more y⟩
  else ⟨q.rows, fun y => if y = t % 2 ^ w then (q.more y).map (fun L => spreadL L (t / 2 ^ w) (n - w) (s, n, false)) else q.more y⟩
/-- A code: its symbol, its length, its bits as a number. -/
structure Cd where
  s : Nat
  n : Nat
  t : Nat
/-- Codes as they are added: none longer than one ahead, none that begins another one. -/
structure Okay (os : List Cd) : Prop where
  bd : ∀ a ∈ os, 1 ≤ a.n ∧ a.n ≤ 15 ∧ a.t < 2 ^ a.n
  free : os.Pairwise fun a b => b.n ≤ a.n ∧ a.t % 2 ^ b.n ≠ b.t
theorem Okay.front {os : List Cd} {b : Cd} (h : Okay (os ++ [b])) : Okay os ∧ (1 ≤ b.n ∧ b.n ≤ 15 ∧ b.t < 2 ^ b.n) ∧ ∀ a ∈ os, b.n ≤ a.n ∧ a.t % 2 ^ b.n ≠ b.t := by
  have hp := List.pairwise_append.1 h.free
  exact ⟨⟨fun a ha => h.bd a (by simp [ha]), hp.1⟩, h.bd b (by simp), fun a ha => hp.2.2 a ha b (by simp)⟩
/-- A code that a number of w bits has to be gone on from. -/
def Cd.deepAt (w x : Nat) (a : Cd) : Prop := w < a.n ∧ a.t % 2 ^ w = x
/-- What is behind a deep row. -/
structure Behind (w x : Nat) (os : List Cd) (L : List R3) : Prop where
  hit : ∀ a ∈ os, a.deepAt w x → ∀ y, y < L.length → y % 2 ^ (a.n - w) = a.t / 2 ^ w → L[y]? = some (a.s, a.n, false)
  miss : ∀ y, y < L.length → (∀ a ∈ os, a.deepAt w x → y % 2 ^ (a.n - w) ≠ a.t / 2 ^ w) → L[y]? = some r0
structure Spec (w : Nat) (os : List Cd) (q : QS) : Prop where
  len : q.rows.length = 2 ^ w
  low : ∀ a ∈ os, a.n ≤ w → ∀ x, x < 2 ^ w → x % 2 ^ a.n = a.t → q.rows[x]? = some (a.s, a.n, false)
  deep : ∀ x, x < 2 ^ w → (∃ a ∈ os, a.deepAt w x) → ∃ a0 ∈ os, a0.deepAt w x ∧ (∀ a ∈ os, a.deepAt w x → a.n ≤ a0.n) ∧ q.rows[x]? = some (0, a0.n, true) ∧ ∃ L, q.more x = some L ∧ L.length = 2 ^ (a0.n - w) ∧ Behind w x os L
  none_ : ∀ x, x < 2 ^ w → (∀ a ∈ os, ¬ a.deepAt w x) → (∀ a ∈ os, a.n ≤ w → x % 2 ^ a.n ≠ a.t) → q.rows[x]? = some r0
  bare : ∀ x, (∀ a ∈ os, ¬ a.deepAt w x) → q.more x = none
theorem mod_mod_pow {x n m : Nat} (h : n ≤ m) : x % 2 ^ m % 2 ^ n = x % 2 ^ n := Nat.mod_mod_of_dvd x (Nat.pow_dvd_pow 2 h)
theorem spec_start (w : Nat) : Spec w [] ⟨List.replicate (2 ^ w) r0, fun _ => none⟩ where
  len := by simp
  low := by simp
  deep := by simp
  none_ x hx _ _ := by simp [hx]
  bare _ _ := rfl
/-- Of the same beginning, two codes of which the latter begins the former behind it are not apart. -/
theorem tail_apart {w b at_ bt : Nat} (hwb : w < b) (hm : at_ % 2 ^ w = bt % 2 ^ w) (hne : at_ % 2 ^ b ≠ bt) : (at_ / 2 ^ w) % 2 ^ (b - w) ≠ bt / 2 ^ w := by
  intro e
  apply hne
  have e2 : 2 ^ b = 2 ^ w * 2 ^ (b - w) := by rw [← Nat.pow_add]; congr 1; omega
  rw [e2, Nat.mod_mul, e, hm]
  have := Nat.div_add_mod bt (2 ^ w)
  omega
theorem getD_r0 {rows : List R3} {x : Nat} {r : R3} (h : rows[x]? = some r) : rows.getD x r0 = r := by rw [List.getD, h]; rfl
theorem spec_add {w : Nat} {os : List Cd} {q : QS} {b : Cd} (hs : Spec w os q) (ho : Okay (os ++ [b])) : Spec w (os ++ [b]) (q.add w b.t b.s b.n) := by
  obtain ⟨hok, ⟨hb1, hb15, hbt⟩, hfr⟩ := ho.front
  have mem : ∀ a, a ∈ os ++ [b] → a ∈ os ∨ a = b := fun a h => by simpa using h
  have hp2 : 0 < 2 ^ w := Nat.two_pow_pos w
  by_cases hn : b.n ≤ w
  · unfold QS.add
    rw [if_pos hn]
    have hnd : ∀ x, ¬ b.deepAt w x := fun x h => by have := h.1; omega
    refine ⟨by rw [spreadL_len]; exact hs.len, ?_, ?_, ?_, ?_⟩
    · intro a ha han x hx hxa
      rcases mem a ha with h | rfl
      · have hf := hfr a h
        show (spreadL q.rows b.t b.n _)[x]? = _
        rw [spreadL_miss (by rw [hs.len]; exact hx)]
        · exact hs.low a h han x hx hxa
        · rw [← mod_mod_pow hf.1, hxa]
          exact hf.2
      · exact spreadL_hit (by rw [hs.len]; exact hx) hxa
    · intro x hx ⟨a, ha, hda⟩
      rcases mem a ha with h | rfl
      · obtain ⟨a0, h0, hd0, hmax, hr, L, hL, hLl, hbh⟩ := hs.deep x hx ⟨a, h, hda⟩
        refine ⟨a0, by simp [h0], hd0, fun a' ha' hd' => ?_, ?_, L, hL, hLl, ?_, ?_⟩
        · rcases mem a' ha' with h' | rfl
          · exact hmax a' h' hd'
          · exact absurd hd' (hnd x)
        · show (spreadL q.rows b.t b.n _)[x]? = _
          rw [spreadL_miss (by rw [hs.len]; exact hx)]
          · exact hr
          · rw [← hd0.2, mod_mod_pow hn]
            exact (hfr a0 h0).2
        · intro a' ha' hd' y hy hya
          rcases mem a' ha' with h' | rfl
          · exact hbh.hit a' h' hd' y hy hya
          · exact absurd hd' (hnd x)
        · intro y hy hall
          exact hbh.miss y hy fun a' h' hd' => hall a' (by simp [h']) hd'
      · exact absurd hda (hnd x)
    · intro x hx h1 h2
      show (spreadL q.rows b.t b.n _)[x]? = _
      rw [spreadL_miss (by rw [hs.len]; exact hx) (h2 b (by simp) hn)]
      exact hs.none_ x hx (fun a ha => h1 a (by simp [ha])) (fun a ha => h2 a (by simp [ha]))
    · intro x h1
      exact hs.bare x fun a ha => h1 a (by simp [ha])
  · have hlow : ∀ a ∈ os, ¬ a.n ≤ w := fun a ha h => by have := (hfr a ha).1; omega
    have hx0 : b.t % 2 ^ w < 2 ^ w := Nat.mod_lt _ hp2
    have hbd : b.deepAt w (b.t % 2 ^ w) := ⟨by omega, rfl⟩
    have hother : ∀ x, x ≠ b.t % 2 ^ w → ¬ b.deepAt w x := fun x hx h => hx h.2.symm
    unfold QS.add
    rw [if_neg hn]
    by_cases hd : ∃ a ∈ os, a.deepAt w (b.t % 2 ^ w)
    · obtain ⟨a0, h0, hd0, hmax, hr, L, hL, hLl, hbh⟩ := hs.deep _ hx0 hd
      rw [if_neg (by rw [getD_r0 hr]; intro e; exact absurd (congrArg (fun r : R3 => r.2.2) e) (by simp [r0]))]
      refine ⟨hs.len, ?_, ?_, ?_, ?_⟩
      · intro a ha han
        rcases mem a ha with h | rfl
        · exact absurd han (hlow a h)
        · exact absurd han hn
      · intro x hx hex
        by_cases hxe : x = b.t % 2 ^ w
        · subst hxe
          refine ⟨a0, by simp [h0], hd0, fun a' ha' hd' => ?_, hr, spreadL L (b.t / 2 ^ w) (b.n - w) (b.s, b.n, false), ?_, by rw [spreadL_len]; exact hLl, ?_, ?_⟩
          · rcases mem a' ha' with h' | rfl
            · exact hmax a' h' hd'
            · exact (hfr a0 h0).1
          · show (if _ = _ then _ else _) = _
            rw [if_pos rfl, hL]
            rfl
          · intro a' ha' hd' y hy hya
            rw [spreadL_len] at hy
            rcases mem a' ha' with h' | rfl
            · rw [spreadL_miss hy]
              · exact hbh.hit a' h' hd' y hy hya
              · have hf := hfr a' h'
                rw [← mod_mod_pow (show b.n - w ≤ a'.n - w by omega), hya]
                exact tail_apart (by omega) hd'.2 hf.2
            · exact spreadL_hit hy hya
          · intro y hy hall
            rw [spreadL_len] at hy
            rw [spreadL_miss hy (hall b (by simp) hbd)]
            exact hbh.miss y hy fun a' h' hd' => hall a' (by simp [h']) hd'
        · obtain ⟨a, ha, hda⟩ := hex
          rcases mem a ha with h | rfl
          · obtain ⟨a1, h1, hd1, hmax1, hr1, L1, hL1, hLl1, hbh1⟩ := hs.deep x hx ⟨a, h, hda⟩
            refine ⟨a1, by simp [h1], hd1, fun a' ha' hd' => ?_, hr1, L1, ?_, hLl1, ?_, ?_⟩
            · rcases mem a' ha' with h' | rfl
              · exact hmax1 a' h' hd'
              · exact absurd hd' (hother x hxe)
            · show (if _ = _ then _ else _) = _
              rw [if_neg hxe, hL1]
            · intro a' ha' hd' y hy hya
              rcases mem a' ha' with h' | rfl
              · exact hbh1.hit a' h' hd' y hy hya
              · exact absurd hd' (hother x hxe)
            · intro y hy hall
              exact hbh1.miss y hy fun a' h' hd' => hall a' (by simp [h']) hd'
          · exact absurd hda (hother x hxe)
      · intro x hx h1 h2
        exact hs.none_ x hx (fun a ha => h1 a (by simp [ha])) (fun a ha => h2 a (by simp [ha]))
      · intro x h1
        show (if _ = _ then _ else _) = _
        rw [if_neg (fun e => h1 b (by simp) ⟨by omega, e.symm⟩)]
        exact hs.bare x fun a ha => h1 a (by simp [ha])
    · have hd' : ∀ a ∈ os, ¬ a.deepAt w (b.t % 2 ^ w) := fun a ha h => hd ⟨a, ha, h⟩
      have hr := hs.none_ _ hx0 hd' (fun a ha h => absurd h (hlow a ha))
      rw [if_pos (getD_r0 hr)]
      refine ⟨by show (q.rows.set _ _).length = _; rw [List.length_set]; exact hs.len, ?_, ?_, ?_, ?_⟩
      · intro a ha han
        rcases mem a ha with h | rfl
        · exact absurd han (hlow a h)
        · exact absurd han hn
      · intro x hx hex
        by_cases hxe : x = b.t % 2 ^ w
        · subst hxe
          have hll : (spreadL (List.replicate (2 ^ (b.n - w)) r0) (b.t / 2 ^ w) (b.n - w) (b.s, b.n, false)).length = 2 ^ (b.n - w) := by rw [spreadL_len]; simp
          refine ⟨b, by simp, hbd, fun a' ha' hd'' => ?_, ?_, _, by show (if _ = _ then _ else _) = _; rw [if_pos rfl], hll, ?_, ?_⟩
          · rcases mem a' ha' with h' | rfl
            · exact absurd hd'' (hd' a' h')
            · exact Nat.le_refl _
          · show (q.rows.set _ _)[_]? = _
            rw [List.getElem?_set_self (by rw [hs.len]; exact hx0)]
          · intro a' ha' hd'' y hy hya
            rcases mem a' ha' with h' | rfl
            · exact absurd hd'' (hd' a' h')
            · rw [hll] at hy
              exact spreadL_hit (by simpa using hy) hya
          · intro y hy hall
            rw [hll] at hy
            rw [spreadL_miss (by simpa using hy) (hall b (by simp) hbd)]
            simp [hy]
        · obtain ⟨a, ha, hda⟩ := hex
          rcases mem a ha with h | rfl
          · obtain ⟨a1, h1, hd1, hmax1, hr1, L1, hL1, hLl1, hbh1⟩ := hs.deep x hx ⟨a, h, hda⟩
            refine ⟨a1, by simp [h1], hd1, fun a' ha' hd'' => ?_, ?_, L1, ?_, hLl1, ?_, ?_⟩
            · rcases mem a' ha' with h' | rfl
              · exact hmax1 a' h' hd''
              · exact absurd hd'' (hother x hxe)
            · show (q.rows.set _ _)[_]? = _
              rw [List.getElem?_set_ne (Ne.symm hxe)]
              exact hr1
            · show (if _ = _ then _ else _) = _
              rw [if_neg hxe, hL1]
            · intro a' ha' hd'' y hy hya
              rcases mem a' ha' with h' | rfl
              · exact hbh1.hit a' h' hd'' y hy hya
              · exact absurd hd'' (hother x hxe)
            · intro y hy hall
              exact hbh1.miss y hy fun a' h' hd'' => hall a' (by simp [h']) hd''
          · exact absurd hda (hother x hxe)
      · intro x hx h1 h2
        show (q.rows.set _ _)[_]? = _
        rw [List.getElem?_set_ne (fun e => h1 b (by simp) ⟨by omega, e⟩)]
        exact hs.none_ x hx (fun a ha => h1 a (by simp [ha])) (fun a ha => h2 a (by simp [ha]))
      · intro x h1
        show (if _ = _ then _ else _) = _
        rw [if_neg (fun e => h1 b (by simp) ⟨by omega, e.symm⟩)]
        exact hs.bare x fun a ha => h1 a (by simp [ha])
end Go.Proofs.Ytnobeipabfdkjaa
