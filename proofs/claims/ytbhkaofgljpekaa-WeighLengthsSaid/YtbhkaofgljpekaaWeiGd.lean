/- Layer 7, plainly: the items of weights, and their lengths. -/
import Derived.Test.YtbhkaofgljpekaaWeiLf
namespace Go.Proofs.Ytbhkaofgljpekaa

theorem itP_nodup {ns : List Nat} : ∀ k, ((itP ns k).map (·.2)).Nodup
  | 0 => by simp [itP]
  | k + 1 => by
    have ih := itP_nodup (ns := ns) k
    rw [itP]
    split
    · split
      · rw [List.map_append, List.nodup_append]
        refine ⟨ih, by simp, fun a ha b hb => ?_⟩
        obtain ⟨x, hx, rfl⟩ := List.mem_map.1 ha
        have h3 := (itP_mem hx).2.2
        have : b = k := by simpa using hb
        omega
      · exact ih
    · exact ih
theorem itemsW_good {ns : List Nat} (h2 : 2 ≤ (itemsW ns).length) (hl : ns.length ≤ 16384) : Good (itemsW ns) where
  rise := by
    rw [RiseW, firstW, List.pairwise_map]
    exact (sortW_le _).imp fun {a b} h => by dsimp only; omega
  nodup := ((sortW_perm (itP ns ns.length)).map (·.2)).nodup_iff.2 (itP_nodup _)
  two := h2
  few := Nat.le_trans (itemsW_len ns) hl
theorem prW_all {P : Nat → Prop} : ∀ l : List WE, (∀ x ∈ l, ∀ s ∈ x.2, P s) → ∀ x ∈ prW l, ∀ s ∈ x.2, P s
  | [], _, x, h => by simp [prW] at h
  | [_], _, x, h => by simp [prW] at h
  | a :: b :: r, hl, x, h => by
    rw [prW] at h
    rcases List.mem_cons.1 h with rfl | h
    · intro s hs
      rcases List.mem_append.1 hs with hs | hs
      · exact hl a (by simp) s hs
      · exact hl b (by simp) s hs
    · exact prW_all r (fun y hy => hl y (by simp [hy])) x h
theorem rowW_all {P : Nat → Prop} {first : List WE} (h : ∀ x ∈ first, ∀ s ∈ x.2, P s) : ∀ k, ∀ x ∈ rowW first k, ∀ s ∈ x.2, P s
  | 0, x, hx => h x hx
  | k + 1, x, hx => by
    rw [rowW] at hx
    rcases mgW_mem _ _ x hx with hx | hx
    · exact h x hx
    · exact prW_all _ (rowW_all h k) x hx
theorem firstW_all {ns : List Nat} : ∀ x ∈ firstW (itemsW ns), ∀ s ∈ x.2, s < ns.length := by
  intro x hx s hs
  obtain ⟨y, hy, rfl⟩ := List.mem_map.1 hx
  have h1 : s = y.2 := by simpa using hs
  rw [h1]
  exact (itemsW_mem hy).2.2
/-- No symbol is counted more than 15 times. -/
theorem lnW_le {ns : List Nat} (hg : Good (itemsW ns)) (s : Nat) : lnW (itemsW ns) s ≤ 15 := by
  by_cases h : s ∈ (itemsW ns).map (·.2)
  · obtain ⟨x, hx, rfl⟩ := List.mem_map.1 h
    exact ln_le hg hx
  · rw [ln_none hg h]
    exact Nat.zero_le _
theorem count_flat_le {l : List WE} (s j m : Nat) (h : j ≤ m) : ((l.take j).flatMap (·.2)).count s ≤ ((l.take m).flatMap (·.2)).count s := by
  obtain ⟨d, rfl⟩ := Nat.exists_eq_add_of_le h
  rw [List.take_add, List.flatMap_append, List.count_append]
  omega
end Go.Proofs.Ytbhkaofgljpekaa
