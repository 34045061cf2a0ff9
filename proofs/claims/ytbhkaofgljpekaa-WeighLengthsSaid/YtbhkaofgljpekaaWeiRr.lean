/- Layer 7: the reference's rows. -/
import Derived.Test.YtbhkaofgljpekaaWeiRi
import Derived.Test.YtbhkaofgljpekaaWeiEl
import Derived.Test.YtbhkaofgljpekaaWeiMg
namespace Go.Proofs.Ytbhkaofgljpekaa
open Go.RowKit

/-- Blocks of ints stay. -/
def KI (w w' : World) : Prop := ∀ (b : Nat) (cur : Array Value), w.heap[b]? = some (Obj.cells cur 3 (0, 0)) → w'.heap[b]? = some (Obj.cells cur 3 (0, 0))
theorem KI.refl (w : World) : KI w w := fun _ _ h => h
theorem KI.trans {a b c : World} (h : KI a b) (k : KI b c) : KI a c := fun j cur hj => k j cur (h j cur hj)
theorem KI.below {w w' : World} (h : Below w.heap.size w w') : KI w w' := fun b _ hb => (h.block b (Array.getElem?_eq_some_iff.1 hb).1).trans hb
theorem KI.alloc (w : World) (o : Obj) : KI w (w.alloc o) := KI.below ((Below.refl _ w).alloc (Nat.le_refl _) o)
theorem KI.drewN (w : World) (n : Nat) : KI w (w.drewN n) := fun _ _ h => h
theorem KI.app {w w' : World} {base : Nat} {e : TypeId} {size n : Nat} {v v' : Value} {xs : List Value} {n0 : Nat} {xs0 : List Value} (ho : w.ownsRow base e size v n0 xs0) (h : App w base e size v n xs w' v') (hne : e ≠ 3) : KI w w' := fun _ _ hb =>
  (Mod.of_app h).keep hb (own_ne ho hb hne)
/-- Ints in memory, in a block of ints. -/
def HasI (N : Nat) (w : World) (A : Option Addr) (xs : List Value) : Prop := 0 < xs.length → ∃ (b o : Nat) (cur : Array Value), A = some ⟨b, o, none⟩ ∧ N ≤ b ∧ w.heap[b]? = some (.cells cur 3 (0, 0)) ∧ ∀ j u, xs[j]? = some u → cur[o + j]? = some u
theorem HasI.keep {N : Nat} {w w' : World} {A : Option Addr} {xs : List Value} (h : HasI N w A xs) (hk : KI w w') : HasI N w' A xs := fun hp => by
  obtain ⟨b, o, cur, e, hN, h1, h2⟩ := h hp
  exact ⟨b, o, cur, e, hN, hk b cur h1, h2⟩
theorem HasI.cells {N : Nat} {w : World} {A : Option Addr} {xs : List Value} (h : HasI N w A xs) : Cells w w.heap.size A xs := fun hp => by
  obtain ⟨b, o, cur, e, _, h1, h2⟩ := h hp
  exact ⟨b, o, e, (Array.getElem?_eq_some_iff.1 h1).1, fun j u hu => by rw [cell_of_row _ _ _ _ _ _ h1]; exact h2 j u hu⟩
theorem HasI.own {N : Nat} {w : World} {base n c : Nat} {A : Option Addr} {xs : List Value} (h : w.ownsRow base 3 1 (.slice A n c) n xs) (hN : N ≤ base) : HasI N w A xs := fun hp => by
  rcases h.2 with ⟨_, h3⟩ | ⟨g, cap, cur, hv, hg, hh, hnc, hcm, hcs, htake⟩
  · have := h.1; omega
  · simp only [Value.slice.injEq] at hv
    obtain ⟨rfl, _, rfl⟩ := hv
    refine ⟨g, 0, cur, rfl, Nat.le_trans hN hg, hh, fun j u hu => ?_⟩
    rw [← htake] at hu
    have hlt := (List.getElem?_eq_some_iff.1 hu).1
    rw [List.length_take] at hlt
    rw [List.getElem?_take_of_lt (by omega)] at hu
    simpa using hu
/-- The cells of an element of the reference's. -/
def EH (N : Nat) (w : World) (x : WE) (cs : List Value) : Prop := ∃ A c, cs = [.int .i64 (x.1 : Int), .slice A x.2.length c] ∧ HasI N w A (nCs x.2)
theorem EH.keep {N : Nat} {w w' : World} {x : WE} {cs : List Value} (h : EH N w x cs) (hk : KI w w') : EH N w' x cs := by
  obtain ⟨A, c, e, h⟩ := h
  exact ⟨A, c, e, h.keep hk⟩
/-- The cells of a row of these. -/
def RowH (N : Nat) (w : World) (xs : List WE) (cs : List Value) : Prop := ∃ E : List (WE × List Value), E.map (·.1) = xs ∧ E.flatMap (·.2) = cs ∧ ∀ e ∈ E, EH N w e.1 e.2
theorem RowH.nil (N : Nat) (w : World) : RowH N w [] [] := ⟨[], rfl, rfl, fun _ h => by simp at h⟩
theorem RowH.keep {N : Nat} {w w' : World} {xs : List WE} {cs : List Value} (h : RowH N w xs cs) (hk : KI w w') : RowH N w' xs cs := by
  obtain ⟨E, e1, e2, h⟩ := h
  exact ⟨E, e1, e2, fun e he => (h e he).keep hk⟩
theorem RowH.snoc {N : Nat} {w : World} {xs : List WE} {cs : List Value} {x : WE} {c : List Value} (h : RowH N w xs cs) (hx : EH N w x c) : RowH N w (xs ++ [x]) (cs ++ c) := by
  obtain ⟨E, rfl, rfl, h⟩ := h
  refine ⟨E ++ [(x, c)], by simp, by simp, fun e he => ?_⟩
  rcases List.mem_append.1 he with he | he
  · exact h e he
  · rw [List.mem_singleton.1 he]
    exact hx
theorem RowH.cons {N : Nat} {w : World} {x : WE} {xs : List WE} {cs : List Value} (h : RowH N w (x :: xs) cs) : ∃ c d, cs = c ++ d ∧ EH N w x c ∧ RowH N w xs d := by
  obtain ⟨E, e1, rfl, h⟩ := h
  cases E with
  | nil => simp at e1
  | cons e E =>
    simp only [List.map_cons, List.cons.injEq] at e1
    obtain ⟨rfl, rfl⟩ := e1
    exact ⟨e.2, E.flatMap (·.2), by simp, h e (by simp), E, rfl, rfl, fun e' he => h e' (by simp [he])⟩
theorem EH.two {N : Nat} {w : World} {x : WE} {cs : List Value} (h : EH N w x cs) : cs.length = 2 := by
  obtain ⟨A, c, rfl, _⟩ := h
  rfl
theorem RowH.len {N : Nat} {w : World} : ∀ {xs : List WE} {cs : List Value}, RowH N w xs cs → cs.length = xs.length * 2
  | [], cs, h => by
    obtain ⟨E, e1, rfl, _⟩ := h
    rw [List.map_eq_nil_iff.1 e1]
    rfl
  | x :: xs, cs, h => by
    obtain ⟨c, d, rfl, hx, hr⟩ := h.cons
    rw [List.length_append, hx.two, hr.len, List.length_cons]
    omega
theorem RowH.at_ {N : Nat} {w : World} : ∀ {xs : List WE} {cs : List Value} {i : Nat} {x : WE}, RowH N w xs cs → xs[i]? = some x → ∃ A c, cs[i * 2]? = some (.int .i64 (x.1 : Int)) ∧ cs[i * 2 + 1]? = some (.slice A x.2.length c) ∧ HasI N w A (nCs x.2)
  | [], _, _, _, _, h => by simp at h
  | y :: xs, cs, i, x, hr, h => by
    obtain ⟨c, d, rfl, hx, hr⟩ := hr.cons
    cases i with
    | zero =>
      obtain rfl : y = x := by simpa using h
      obtain ⟨A, c', rfl, hc⟩ := hx
      exact ⟨A, c', rfl, rfl, hc⟩
    | succ i =>
      obtain ⟨A, c', h1, h2, h3⟩ := hr.at_ (i := i) (by simpa using h)
      refine ⟨A, c', ?_, ?_, h3⟩
      · rw [List.getElem?_append_right (by rw [hx.two]; omega), hx.two, show (i + 1) * 2 - 2 = i * 2 by omega]
        exact h1
      · rw [List.getElem?_append_right (by rw [hx.two]; omega), hx.two, show (i + 1) * 2 + 1 - 2 = i * 2 + 1 by omega]
        exact h2
theorem RowH.one {N : Nat} {w : World} {xs : List WE} {cs : List Value} (h : RowH N w xs cs) : ∀ u ∈ cs, u.oneCell' = true := by
  obtain ⟨E, _, rfl, h⟩ := h
  intro u hu
  obtain ⟨e, he, hu⟩ := List.mem_flatMap.1 hu
  obtain ⟨A, c, hc, _⟩ := h e he
  rw [hc] at hu
  simp only [List.mem_cons, List.not_mem_nil, or_false] at hu
  rcases hu with rfl | rfl <;> rfl
theorem eElem : Elem Try.prog 51 54 (.agg #[.int .i64 0, .slice none 0 0]) 2 32 := Elem.of Try.underlying51 (by kernel_rfl) (by kernel_rfl) (by omega)
theorem wIntElem : Elem Try.prog 22 3 (.int .i64 0) 1 8 := Elem.of Try.underlying22 (by kernel_rfl) (by kernel_rfl) (by omega)
/-- Items by their places, as the first row. -/
def firstP (its : List (Nat × Nat)) : List WE := its.zipIdx.map fun p => (p.1.1, [p.2])
theorem firstP_len (its : List (Nat × Nat)) : (firstP its).length = its.length := by simp [firstP]
theorem firstP_at {its : List (Nat × Nat)} {i : Nat} {x : Nat × Nat} (h : its[i]? = some x) : (firstP its)[i]? = some (x.1, [i]) := by
  simp [firstP, h]
theorem firstP_drop {its : List (Nat × Nat)} {i : Nat} {x : Nat × Nat} (h : its[i]? = some x) : (firstP its).drop i = (x.1, [i]) :: (firstP its).drop (i + 1) := by
  obtain ⟨h1, h2⟩ := List.getElem?_eq_some_iff.1 (firstP_at h)
  rw [List.drop_eq_getElem_cons h1, h2]
end Go.Proofs.Ytbhkaofgljpekaa
