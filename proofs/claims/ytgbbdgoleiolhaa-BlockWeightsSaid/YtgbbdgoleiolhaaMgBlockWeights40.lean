/- Layer 7: the reference's Row. -/
import Derived.Test.YtgbbdgoleiolhaaMgBlockWeights39
import Derived.Deep.RegionHeld3
import Derived.Test.YtgbbdgoleiolhaaMgBlockWeights35
namespace Go.Proofs.Ytgbbdgoleiolhaa
open Go.RowKit

theorem step_app1w {P : Program} (w : World) {ops : Array Oper} {o : Oper} {a : Act} {K : Act → World → Prop} {Q : Exit → Act → World → Prop} {F : Prop} {t e : TypeId} {z : Value} {size bytes : Nat} (E : Elem P t e z size bytes) (hgd : o.guard = none) (s x : Operand)
    (ho : o.op = .call { callee := .builtin .append, args := #[s, x], argTypes := #[t, t] }) (base : Nat)
    (v : Value) (n : Nat) (xs : List Value) (hs : a.eval s = v) (hown : w.ownsRow base e size v n xs)
    (C : Array Value) (hx : a.eval x = .slice (some ⟨w.heap.size, 0, none⟩) 1 1) (hC : C.size = size) (h1 : ∀ u ∈ C.toList, u.oneCell' = true)
    (h63 : n + 1 ≤ maxLen) (hbytes : (n + 1) * bytes ≤ 140737488355328) (hbase : base ≤ w.heap.size)
    (h : ∀ A' c' w', App w base e size v (n + 1) (xs ++ C.toList) w' (.slice A' (n + 1) c') → K (a.put o.dst (.slice A' (n + 1) c')) w') :
    if Region.wanted o (yielded ops a.tmps) = true then Oper.wp P o a (w.alloc (.cells C e)) K Q else F := by
  refine step_app (w.alloc (.cells C e)) E hgd s x ho base v n xs hs (hown.alloc _) (w.heap.size + 1) (some ⟨w.heap.size, 0, none⟩) 1 1 C.toList hx (by rw [Nat.one_mul]; exact hC) ?_ h1 h63 hbytes (by simp; omega)
    (fun A' c' w' hA => h A' c' w' hA.behind)
  refine fun _ => ⟨_, 0, rfl, Nat.lt_succ_self _, fun j u hu => ?_⟩
  rw [cell_of_row _ _ _ _ _ _ (heap_alloc_new w _)]
  simpa using hu
theorem own_apartT {w : World} {b1 b2 s1 s2 n1 n2 : Nat} {e1 e2 : TypeId} {v1 v2 : Value} {x1 x2 : List Value} (h1 : w.ownsRow b1 e1 s1 v1 n1 x1) (h2 : w.ownsRow b2 e2 s2 v2 n2 x2) (hne : e1 ≠ e2) : ∀ k, ownS v1 k → ¬ ownS v2 k := fun k hk hk2 => by
  rcases h2.2 with ⟨rfl, _⟩ | ⟨g, cap, cur, rfl, _, hh, _⟩
  · cases hk2
  · obtain rfl : g = k := by simpa [ownS, Value.ownBlock] using hk2
    exact own_ne h1 hh hne hk
end Go.Proofs.Ytgbbdgoleiolhaa
/- Layer 7, plainly: rows by places, and by symbols. -/
namespace Go.Proofs.Ytgbbdgoleiolhaa

/-- The reference's rows, none ahead of the first. -/
def rrP (first : List WE) : Nat → List WE
  | 0 => []
  | j + 1 => mgW first (prW (rrP first j))
theorem rrP_row (first : List WE) : ∀ j, rrP first (j + 1) = rowW first j
  | 0 => by show mgW first [] = first; rw [mgW]
  | j + 1 => by rw [rrP, rrP_row first j, rowW]
def mpE (g : Nat → Nat) (x : WE) : WE := (x.1, x.2.map g)
theorem prW_map (g : Nat → Nat) : ∀ l : List WE, prW (l.map (mpE g)) = (prW l).map (mpE g)
  | [] => rfl
  | [_] => rfl
  | a :: b :: r => by
    rw [List.map_cons, List.map_cons, prW, prW, List.map_cons, prW_map g r]
    simp [mpE]
theorem mgW_map (g : Nat → Nat) : ∀ (ps its : List WE), mgW (its.map (mpE g)) (ps.map (mpE g)) = (mgW its ps).map (mpE g)
  | [], its => rfl
  | p :: ps, its => by
    rw [List.map_cons, mgW, mgW, List.map_append, List.map_cons]
    have e1 : (its.map (mpE g)).takeWhile (fun x => decide (x.1 ≤ (mpE g p).1)) = (its.takeWhile (fun x => decide (x.1 ≤ p.1))).map (mpE g) := by
      rw [List.takeWhile_map]
      rfl
    have e2 : (its.map (mpE g)).dropWhile (fun x => decide (x.1 ≤ (mpE g p).1)) = (its.dropWhile (fun x => decide (x.1 ≤ p.1))).map (mpE g) := by
      rw [List.dropWhile_map]
      rfl
    rw [e1, e2, mgW_map g ps]
theorem rowW_map (g : Nat → Nat) (first : List WE) : ∀ k, rowW (first.map (mpE g)) k = (rowW first k).map (mpE g)
  | 0 => rfl
  | k + 1 => by rw [rowW, rowW, rowW_map g first k, prW_map, mgW_map]
/-- The symbol at a place. -/
def symAt (its : List (Nat × Nat)) (p : Nat) : Nat := (its.getD p (0, 0)).2
theorem firstP_map (its : List (Nat × Nat)) : (firstP its).map (mpE (symAt its)) = firstW its := by
  apply List.ext_getElem?
  intro i
  rw [List.getElem?_map]
  cases h : its[i]? with
  | none =>
    rw [List.getElem?_eq_none (by rw [firstP_len]; exact List.getElem?_eq_none_iff.1 h), List.getElem?_eq_none (by rw [firstW_len]; exact List.getElem?_eq_none_iff.1 h)]
    rfl
  | some x =>
    rw [firstP_at h, firstW, List.getElem?_map, h]
    simp [mpE, symAt, h]
theorem symsP (its : List (Nat × Nat)) (m : Nat) : (((rowW (firstP its) 14).take m).flatMap (·.2)).map (symAt its) = ((rowW (firstW its) 14).take m).flatMap (·.2) := by
  rw [← firstP_map, rowW_map, List.map_flatMap, ← List.map_take, List.flatMap_map]
  rfl
theorem prW_slen {m : Nat} : ∀ l : List WE, (∀ x ∈ l, x.2.length ≤ m) → ∀ x ∈ prW l, x.2.length ≤ 2 * m
  | [], _, x, h => by simp [prW] at h
  | [_], _, x, h => by simp [prW] at h
  | a :: b :: r, hl, x, h => by
    rw [prW] at h
    rcases List.mem_cons.1 h with rfl | h
    · have h1 := hl a (by simp)
      have h2 := hl b (by simp)
      show (a.2 ++ b.2).length ≤ _
      rw [List.length_append]
      omega
    · exact prW_slen r (fun y hy => hl y (by simp [hy])) x h
theorem rowW_slen {first : List WE} (h : ∀ x ∈ first, x.2.length ≤ 1) : ∀ k, ∀ x ∈ rowW first k, x.2.length ≤ 2 ^ k
  | 0, x, hx => h x hx
  | k + 1, x, hx => by
    rw [rowW] at hx
    rcases mgW_mem _ _ x hx with hx | hx
    · exact Nat.le_trans (h x hx) (Nat.two_pow_pos _)
    · have := prW_slen _ (rowW_slen h k) x hx
      rw [Nat.pow_succ, Nat.mul_comm]
      exact this
theorem firstP_mem {its : List (Nat × Nat)} {x : WE} (h : x ∈ firstP its) : ∃ i y, its[i]? = some y ∧ x = (y.1, [i]) := by
  obtain ⟨⟨y, i⟩, hy, rfl⟩ := List.mem_map.1 h
  exact ⟨i, y, (List.mem_zipIdx_iff_getElem?.1 hy), rfl⟩
/-- What a row of the reference's is bound by. -/
theorem rrP_bd {its : List (Nat × Nat)} (hw : ∀ x ∈ its, x.1 ≤ 1073741824) {j : Nat} (hj : j ≤ 15) : (rrP (firstP its) j).length ≤ 2 * its.length ∧ ∀ x ∈ rrP (firstP its) j, x.1 ≤ 1125899906842624 ∧ x.2.length ≤ 1000000 ∧ ∀ p ∈ x.2, p < its.length := by
  cases j with
  | zero => exact ⟨Nat.zero_le _, fun x h => by simp [rrP] at h⟩
  | succ j =>
    rw [rrP_row]
    refine ⟨by have := rowW_len (firstP its) j; rwa [firstP_len] at this, fun x hx => ⟨?_, ?_, ?_⟩⟩
    · have h1 := rowW_bd (m := 1073741824) (first := firstP its) (fun y hy => by
        obtain ⟨i, z, hz, rfl⟩ := firstP_mem hy
        exact hw z (List.mem_of_getElem? hz)) j x hx
      have h2 : 2 ^ j ≤ 2 ^ 14 := Nat.pow_le_pow_right (by omega) (by omega)
      have h3 := Nat.mul_le_mul_right 1073741824 h2
      omega
    · have h1 := rowW_slen (first := firstP its) (fun y hy => by
        obtain ⟨i, z, hz, rfl⟩ := firstP_mem hy
        exact Nat.le_refl _) j x hx
      have h2 : 2 ^ j ≤ 2 ^ 14 := Nat.pow_le_pow_right (by omega) (by omega)
      omega
    · exact rowW_all (fun y hy s hs => by
        obtain ⟨i, z, hz, rfl⟩ := firstP_mem hy
        have : s = i := by simpa using hs
        rw [this]
        exact (List.getElem?_eq_some_iff.1 hz).1) j x hx
end Go.Proofs.Ytgbbdgoleiolhaa
/- Layer 7: the reference's Lengths. -/
namespace Go.Proofs.Ytgbbdgoleiolhaa
open Go.RowKit

theorem NB.apart2 {w : World} {g b o : Nat} {v : Value} {ns : List Nat} (h : NB w g ns) (ha : w.cell? ⟨b, o, none⟩ = some v) (hv : ∀ n, v ≠ .int .i64 n) : b ≠ g := by
  rintro rfl
  rw [cell_of_row _ _ _ _ _ _ h] at ha
  have h2 : (nCs ns)[o]? = some v := by simpa using ha
  rw [nCs, List.getElem?_map] at h2
  cases hx : ns[o]? with
  | none => rw [hx] at h2; cases h2
  | some n => rw [hx] at h2; exact hv _ (by injection h2 with h2; exact h2.symm)
theorem mod_cell {w w' : World} {g b o : Nat} {v : Value} (h : w.cell? ⟨b, o, none⟩ = some v) (hm : Mod (oneB g) w w') (hb : b ≠ g) : w'.cell? ⟨b, o, none⟩ = some v :=
  (World.cell?_of_block (a := ⟨b, o, none⟩) (hm.block b (World.block_lt_of_cell? w _ h) (fun e => hb e))).trans h
end Go.Proofs.Ytgbbdgoleiolhaa
