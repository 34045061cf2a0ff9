/- Layer 34, plainly: the codes in the order in which they are added. -/
import Derived.Test.YtnobeipabfdkjaaQkPl
import Derived.Test.YtnobeipabfdkjaaQkTurn
import Derived.Test.YtnobeipabfdkjaaCrTk
namespace Go.Proofs.Ytnobeipabfdkjaa
open Go.RowKit BitsP

theorem codeB_take (v : Nat) {a b : Nat} (h : b ≤ a) : (codeB v a).take b = codeB (v / 2 ^ (a - b)) b := by
  have e : bitsOf v a = bitsOf v (a - b) ++ bitsOf (v / p2 (a - b)) b := by
    have := bitsOf_add v (a - b) b
    rwa [show a - b + b = a by omega] at this
  unfold codeB
  rw [e, List.reverse_append, List.take_left' (by rw [List.length_reverse, bitsOf_length]), p2_pow]
theorem turn_mod (v : Nat) {a b : Nat} (h : b ≤ a) : turnN v a % 2 ^ b = turnN (v / 2 ^ (a - b)) b := by
  unfold turnN
  rw [← p2_pow, ← num_take, codeB_take v h]
theorem turn_inj {u v n : Nat} (hu : u < 2 ^ n) (hv : v < 2 ^ n) (h : turnN u n = turnN v n) : u = v := by
  have e : codeB u n = codeB v n := num_inj (by rw [codeB_len, codeB_len]) h
  rw [← hiN_code hu, ← hiN_code hv, e]
/-- A symbol's length and code, as they are added. -/
def cdN (zs : List Int) (s : Nat) : Nat := (zs.getD s 0).toNat
def cdV (zs : List Int) (s : Nat) : Nat := ((caV zs).getD s 0).toNat
def cd (zs : List Int) (s : Nat) : Cd := ⟨s, cdN zs s, turnN (cdV zs s) (cdN zs s)⟩
theorem cd_sym {zs : List Int} {s n v k : Nat} (h : Sym zs s n v k) : cd zs s = ⟨s, n, turnN v n⟩ := by
  have h1 : cdN zs s = n := by unfold cdN; rw [getD_of h.len, Int.toNat_natCast]
  have h2 : cdV zs s = v := by unfold cdV; rw [getD_of h.val, Int.toNat_natCast]
  unfold cd
  rw [h1, h2]
/-- The symbols of the lengths from 15 down, so many of them. -/
def dnL (zs : List Int) : Nat → List Nat
  | 0 => []
  | d + 1 => dnL zs d ++ ixs zs (15 - d) zs.length
/-- .. and those of the next length, of the first k symbols. -/
def dnK (zs : List Int) (d k : Nat) : List Nat := dnL zs d ++ ixs zs (15 - d) k
theorem dnK_zero (zs : List Int) (d : Nat) : dnK zs d 0 = dnL zs d := by simp [dnK, ixs]
theorem dnK_full (zs : List Int) (d : Nat) : dnK zs d zs.length = dnL zs (d + 1) := rfl
theorem ixs_yes {zs : List Int} {n k : Nat} (h : zs[k]? = some (n : Int)) : ixs zs n (k + 1) = ixs zs n k ++ [k] := by
  unfold ixs
  rw [List.range_succ, List.filter_append]
  congr 1
  simp [h]
theorem ixs_no {zs : List Int} {n k : Nat} (h : zs[k]? ≠ some (n : Int)) : ixs zs n (k + 1) = ixs zs n k := by
  unfold ixs
  rw [List.range_succ, List.filter_append]
  simp [h]
theorem ixs_mem {zs : List Int} {n k s : Nat} : s ∈ ixs zs n k ↔ s < k ∧ zs[s]? = some (n : Int) := by
  simp [ixs, List.mem_filter]
theorem dnL_mem {zs : List Int} : ∀ {d s : Nat}, d ≤ 15 → s ∈ dnL zs d → ∃ n : Nat, zs[s]? = some (n : Int) ∧ 15 - d < n ∧ n ≤ 15
  | 0, s, _, h => by simp [dnL] at h
  | d + 1, s, hd, h => by
    rw [dnL, List.mem_append] at h
    rcases h with h | h
    · obtain ⟨n, h1, h2, h3⟩ := dnL_mem (by omega) h
      exact ⟨n, h1, by omega, h3⟩
    · obtain ⟨h1, h2⟩ := ixs_mem.1 h
      exact ⟨15 - d, h2, by omega, by omega⟩
theorem dnL_has {zs : List Int} : ∀ {d s n : Nat}, d ≤ 15 → zs[s]? = some (n : Int) → 15 - d < n → n ≤ 15 → s ∈ dnL zs d
  | 0, s, n, _, _, h1, h2 => by omega
  | d + 1, s, n, hd, h, h1, h2 => by
    rw [dnL, List.mem_append]
    by_cases h3 : 15 - d < n
    · exact .inl (dnL_has (by omega) h h3 h2)
    · right
      rw [show 15 - d = n by omega]
      exact ixs_mem.2 ⟨(List.getElem?_eq_some_iff.1 h).1, h⟩
theorem cdN_of {zs : List Int} {s n : Nat} (h : zs[s]? = some (n : Int)) : cdN zs s = n := by unfold cdN; rw [getD_of h, Int.toNat_natCast]
theorem ixs_pw (zs : List Int) (n k : Nat) : (ixs zs n k).Pairwise fun a b => cdN zs b ≤ cdN zs a ∧ a ≠ b := by
  have h1 : (ixs zs n k).Pairwise (· < ·) := List.Pairwise.filter _ List.pairwise_lt_range
  refine h1.imp_of_mem fun {a b} ha hb hab => ?_
  rw [cdN_of (ixs_mem.1 ha).2, cdN_of (ixs_mem.1 hb).2]
  exact ⟨Nat.le_refl _, by omega⟩
theorem dnK_pw (zs : List Int) (k : Nat) : ∀ d, d ≤ 14 → (dnK zs d k).Pairwise fun a b => cdN zs b ≤ cdN zs a ∧ a ≠ b := by
  have cross : ∀ d k, d ≤ 14 → ∀ a ∈ dnL zs d, ∀ b ∈ ixs zs (15 - d) k, cdN zs b ≤ cdN zs a ∧ a ≠ b := fun d k hd a ha b hb => by
    obtain ⟨n, h1, h2, _⟩ := dnL_mem (by omega) ha
    have hb2 := (ixs_mem.1 hb).2
    rw [cdN_of h1, cdN_of hb2]
    refine ⟨by omega, fun e => ?_⟩
    subst e
    rw [h1] at hb2
    injection hb2 with hb2
    omega
  have full : ∀ d, d ≤ 14 → (dnL zs d).Pairwise fun a b => cdN zs b ≤ cdN zs a ∧ a ≠ b := by
    intro d
    induction d with
    | zero => intro _; exact List.Pairwise.nil
    | succ d ih =>
      intro hd
      rw [dnL, List.pairwise_append]
      exact ⟨ih (by omega), ixs_pw zs _ _, cross d _ (by omega)⟩
  intro d hd
  rw [dnK, List.pairwise_append]
  exact ⟨full d hd, ixs_pw zs _ _, cross d k hd⟩
theorem dnK_mem {zs : List Int} {d k s : Nat} (hd : d ≤ 14) (h : s ∈ dnK zs d k) : ∃ n : Nat, zs[s]? = some (n : Int) ∧ 1 ≤ n ∧ n ≤ 15 := by
  rw [dnK, List.mem_append] at h
  rcases h with h | h
  · obtain ⟨n, h1, h2, h3⟩ := dnL_mem (by omega) h
    exact ⟨n, h1, by omega, h3⟩
  · exact ⟨15 - d, (ixs_mem.1 h).2, by omega, by omega⟩
/-- The codes are added in an order that serves. -/
theorem okay_dnK {zs : List Int} (hr : caR zs = true) {d k : Nat} (hd : d ≤ 14) : Okay ((dnK zs d k).map (cd zs)) := by
  constructor
  · intro a ha
    obtain ⟨s, hs, rfl⟩ := List.mem_map.1 ha
    obtain ⟨n, h1, h2, h3⟩ := dnK_mem hd hs
    obtain ⟨v, j, hy⟩ := sym_of h1 h2 h3
    rw [cd_sym hy]
    exact ⟨h2, h3, turnN_lt v n⟩
  · rw [List.pairwise_map]
    refine (dnK_pw zs k d hd).imp_of_mem fun {a b} ha hb hab => ?_
    obtain ⟨n, h1, h2, h3⟩ := dnK_mem hd ha
    obtain ⟨v, j, hy⟩ := sym_of h1 h2 h3
    obtain ⟨n', h1', h2', h3'⟩ := dnK_mem hd hb
    obtain ⟨v', j', hy'⟩ := sym_of h1' h2' h3'
    rw [cdN_of h1, cdN_of h1'] at hab
    rw [cd_sym hy, cd_sym hy']
    refine ⟨hab.1, fun e => ?_⟩
    dsimp only at e
    rw [turn_mod v hab.1] at e
    have hlt : v / 2 ^ (n - n') < 2 ^ n' := by
      rw [Nat.div_lt_iff_lt_mul (Nat.two_pow_pos _), ← Nat.pow_add]
      have := hy.lt hr
      rwa [show n' + (n - n') = n by omega]
    exact hab.2 (hy'.apart hy hab.1 (turn_inj hlt (hy'.lt hr) e)).symm
/-- The table, the codes being added. -/
def qF (W : Nat) : List Cd → QS := List.foldl (fun q c => q.add W c.t c.s c.n) ⟨List.replicate (2 ^ W) r0, fun _ => none⟩
theorem qF_snoc (W : Nat) (os : List Cd) (c : Cd) : qF W (os ++ [c]) = (qF W os).add W c.t c.s c.n := by unfold qF; rw [List.foldl_append]; rfl
theorem spec_qF (W : Nat) (os : List Cd) (h : Okay os) : Spec W os (qF W os) := by
  have key : ∀ n, n ≤ os.length → Okay (os.take n) → Spec W (os.take n) (qF W (os.take n)) := by
    intro n
    induction n with
    | zero => intro _ _; exact spec_start W
    | succ n ih =>
      intro hn ho
      obtain ⟨c, hc⟩ : ∃ c, os[n]? = some c := ⟨_, List.getElem?_eq_getElem (by omega)⟩
      rw [take_snoc' hc] at ho ⊢
      rw [qF_snoc]
      exact spec_add (ih (by omega) ho.front.1) ho
  have h2 := key os.length (Nat.le_refl _) (by rw [List.take_length]; exact h)
  rwa [List.take_length] at h2
end Go.Proofs.Ytnobeipabfdkjaa
