/- Layer 25: with and without a name: shared data. -/
import Derived.Test.YtaneifmbjkolaaaDoorFiK
import Derived.RegionTactic
namespace Go.Proofs.YtaneifmbjkolaaaDoor
open Go.RowKit

theorem Files.of_own {w : World} {base : Nat} {A : Option Addr} {n c : Nat} {fs : List Fi} (h : w.ownsRow base 25 2 (.slice A n c) n (fiCells fs)) (he : ∀ f ∈ fs, Bytes w w.heap.size f.ad f.data ∧ f.data.length ≤ f.cp) : Files w w.heap.size A fs := ⟨cells_of_ownF h, he⟩
/-- slices.Concat of what is ahead, one file, and what is behind. -/
theorem concat3_any (A A3 : Option Addr) (p c n3 c3 : Nat) (xs zs : List Fi) (x : Fi) (w w1 : World) (hp : xs.length = p) (hn : zs.length = n3) (hx : Cells w w.heap.size A (fiCells xs)) (hz : Cells w w.heap.size A3 (fiCells zs)) (hm : p + n3 ≤ 500000) (hb1 : Below w.heap.size w w1) (n : Nat) (hnn : n = p + 1 + n3) :
    Calls Tryd.prog 37 #[.slice (some ⟨w1.heap.size + 1, 0, none⟩) 3 3]
      ((w1.alloc (.cells #[.string x.nm, .slice x.ad x.data.length x.cp] 25)).alloc (.cells #[.slice A p c, .slice (some ⟨w1.heap.size, 0, none⟩) 1 1, .slice A3 n3 c3] 22)).drew
      fun e w' => ∃ A' c', e = .returned (.slice A' n c') ∧ w'.ownsRow w.heap.size 25 2 (.slice A' n c') n (fiCells (xs ++ x :: zs)) ∧ Below w.heap.size w w' := by
  subst hp hn hnn
  obtain ⟨W1, hW1⟩ : ∃ W1, w1.alloc (.cells #[.string x.nm, .slice x.ad x.data.length x.cp] 25) = W1 := ⟨_, rfl⟩
  obtain ⟨C2, hC2⟩ : ∃ C2 : Array Value, C2 = #[.slice A xs.length c, .slice (some ⟨w1.heap.size, 0, none⟩) 1 1, .slice A3 zs.length c3] := ⟨_, rfl⟩
  obtain ⟨W2, hW2⟩ : ∃ W2, (W1.alloc (.cells C2 22)).drew = W2 := ⟨_, rfl⟩
  have hs1 : W1.heap.size = w1.heap.size + 1 := by rw [← hW1]; simp
  have hs2 : W2.heap.size = w1.heap.size + 2 := by rw [← hW2]; show (W1.alloc _).heap.size = _; rw [World.size_alloc, hs1]
  have hr2 : W2.heap[w1.heap.size + 1]? = some (.cells C2 22 (0, 0)) := by rw [← hW2, ← hs1]; exact heap_alloc_new W1 _
  have hb2 : Below w.heap.size w W2 := by
    rw [← hW2, ← hW1]
    exact ((hb1.alloc hb1.size _).alloc (by simp; have := hb1.size; omega) _).drew
  have hx1 : W2.heap[w1.heap.size]? = some (.cells #[.string x.nm, .slice x.ad x.data.length x.cp] 25 (0, 0)) := by
    rw [← hW2]
    show (W1.alloc _).heap[_]? = _
    exact (Below.heap_alloc W1 _ _ (by rw [hs1]; omega)).trans (by rw [← hW1]; exact heap_alloc_new w1 _)
  have key := concatF_any (w1.heap.size + 1) 3 [⟨A, xs.length, c, fiCells xs⟩, ⟨some ⟨w1.heap.size, 0, none⟩, 1, 1, x.cells⟩, ⟨A3, zs.length, c3, fiCells zs⟩] W2 rfl (fun k r hk => by
      rw [cell_of_row _ _ _ _ _ _ hr2, hC2]
      match k, hk with
      | 0, hk => injection hk with hk; subst hk; rfl
      | 1, hk => injection hk with hk; subst hk; rfl
      | 2, hk => injection hk with hk; subst hk; rfl
      | k + 3, hk => cases hk) (by omega) (fun r hr => by
      simp only [List.mem_cons, List.not_mem_nil, or_false] at hr
      rcases hr with rfl | rfl | rfl
      · exact ⟨fi_len xs, fiCells_one xs, (hx.below hb2 (Nat.le_refl _)).more hb2.size⟩
      · refine ⟨rfl, ?_, fun _ => ⟨_, 0, rfl, by omega, fun j u hj => ?_⟩⟩
        · intro u hu
          unfold Fi.cells at hu
          simp only [List.mem_cons, List.not_mem_nil, or_false] at hu
          rcases hu with rfl | rfl <;> rfl
        · rw [Nat.zero_add, cell_of_row _ _ _ _ _ _ hx1]
          unfold Fi.cells at hj
          simpa using hj
      · exact ⟨fi_len zs, fiCells_one zs, (hz.below hb2 (Nat.le_refl _)).more hb2.size⟩) (by unfold sumR; simp only [List.map_cons, List.map_nil, List.sum_cons, List.sum_nil]; omega) (by omega)
  subst hC2
  rw [hW1, hW2]
  refine key.mono ?_
  rintro e w' ⟨A', c', rfl, ho, hb⟩
  have e1 : sumR [⟨A, xs.length, c, fiCells xs⟩, ⟨some ⟨w1.heap.size, 0, none⟩, 1, 1, x.cells⟩, ⟨A3, zs.length, c3, fiCells zs⟩] = xs.length + 1 + zs.length := by
    unfold sumR
    simp only [List.map_cons, List.map_nil, List.sum_cons, List.sum_nil]
    omega
  have e2 : (([⟨A, xs.length, c, fiCells xs⟩, ⟨some ⟨w1.heap.size, 0, none⟩, 1, 1, x.cells⟩, ⟨A3, zs.length, c3, fiCells zs⟩] : List Rw).map Rw.xs).flatten = fiCells (xs ++ x :: zs) := by
    rw [fiCells_app]
    simp only [List.map_cons, List.map_nil, List.flatten_cons, List.flatten_nil, List.append_nil]
    rfl
  rw [e1, e2] at ho
  exact ⟨A', c', by rw [e1], ownF_low ho hb2.size, hb2.trans (hb.mono hb2.size)⟩
/-- .. of what is ahead, and what is behind. -/
theorem concat2_any (A A3 : Option Addr) (p c n3 c3 : Nat) (xs zs : List Fi) (w w1 : World) (hp : xs.length = p) (hn : zs.length = n3) (hx : Cells w w.heap.size A (fiCells xs)) (hz : Cells w w.heap.size A3 (fiCells zs)) (hm : p + n3 ≤ 500000) (hb1 : Below w.heap.size w w1) (n : Nat) (hnn : n = p + n3) :
    Calls Tryd.prog 37 #[.slice (some ⟨w1.heap.size, 0, none⟩) 2 2]
      (w1.alloc (.cells #[.slice A p c, .slice A3 n3 c3] 22)).drew
      fun e w' => ∃ A' c', e = .returned (.slice A' n c') ∧ w'.ownsRow w.heap.size 25 2 (.slice A' n c') n (fiCells (xs ++ zs)) ∧ Below w.heap.size w w' := by
  subst hp hn hnn
  obtain ⟨C2, hC2⟩ : ∃ C2 : Array Value, C2 = #[.slice A xs.length c, .slice A3 zs.length c3] := ⟨_, rfl⟩
  obtain ⟨W2, hW2⟩ : ∃ W2, (w1.alloc (.cells C2 22)).drew = W2 := ⟨_, rfl⟩
  have hs2 : W2.heap.size = w1.heap.size + 1 := by rw [← hW2]; show (w1.alloc _).heap.size = _; rw [World.size_alloc]
  have hr2 : W2.heap[w1.heap.size]? = some (.cells C2 22 (0, 0)) := by rw [← hW2]; exact heap_alloc_new w1 _
  have hb2 : Below w.heap.size w W2 := by
    rw [← hW2]
    exact (hb1.alloc hb1.size _).drew
  have key := concatF_any w1.heap.size 2 [⟨A, xs.length, c, fiCells xs⟩, ⟨A3, zs.length, c3, fiCells zs⟩] W2 rfl (fun k r hk => by
      rw [cell_of_row _ _ _ _ _ _ hr2, hC2]
      match k, hk with
      | 0, hk => injection hk with hk; subst hk; rfl
      | 1, hk => injection hk with hk; subst hk; rfl
      | k + 2, hk => cases hk) (by omega) (fun r hr => by
      simp only [List.mem_cons, List.not_mem_nil, or_false] at hr
      rcases hr with rfl | rfl
      · exact ⟨fi_len xs, fiCells_one xs, (hx.below hb2 (Nat.le_refl _)).more hb2.size⟩
      · exact ⟨fi_len zs, fiCells_one zs, (hz.below hb2 (Nat.le_refl _)).more hb2.size⟩) (by unfold sumR; simp only [List.map_cons, List.map_nil, List.sum_cons, List.sum_nil]; omega) (by omega)
  subst hC2
  rw [hW2]
  refine key.mono ?_
  rintro e w' ⟨A', c', rfl, ho, hb⟩
  have e1 : sumR [⟨A, xs.length, c, fiCells xs⟩, ⟨A3, zs.length, c3, fiCells zs⟩] = xs.length + zs.length := by
    unfold sumR
    simp only [List.map_cons, List.map_nil, List.sum_cons, List.sum_nil]
    omega
  have e2 : (([⟨A, xs.length, c, fiCells xs⟩, ⟨A3, zs.length, c3, fiCells zs⟩] : List Rw).map Rw.xs).flatten = fiCells (xs ++ zs) := by
    rw [fiCells_app]
    simp only [List.map_cons, List.map_nil, List.flatten_cons, List.flatten_nil, List.append_nil]
  rw [e1, e2] at ho
  exact ⟨A', c', by rw [e1], ownF_low ho hb2.size, hb2.trans (hb.mono hb2.size)⟩
theorem cells_takeF {w : World} {B : Nat} {A : Option Addr} {fs : List Fi} (h : Cells w B A (fiCells fs)) (p : Nat) : Cells w B A (fiCells (fs.take p)) := fun hp => by
  rw [fi_len, List.length_take] at hp
  obtain ⟨b, o, e, hlt, hc⟩ := h (by rw [fi_len]; omega)
  refine ⟨b, o, e, hlt, fun j u hj => hc j u ?_⟩
  have e1 : fiCells fs = fiCells (fs.take p) ++ fiCells (fs.drop p) := by rw [← fiCells_app, List.take_append_drop]
  rw [e1, List.getElem?_append_left (List.getElem?_eq_some_iff.1 hj).1]
  exact hj
theorem cells_dropF {w : World} {B b o : Nat} {fs : List Fi} (h : Cells w B (some ⟨b, o, none⟩) (fiCells fs)) (p : Nat) : Cells w B (some ⟨b, o + p * 2, none⟩) (fiCells (fs.drop p)) := fun hp => by
  rw [fi_len, List.length_drop] at hp
  obtain ⟨b', o', e, hlt, hc⟩ := h (by rw [fi_len]; omega)
  injection e with e
  injection e with e1 e2
  subst e1 e2
  refine ⟨b, o + p * 2, rfl, hlt, fun j u hj => ?_⟩
  rw [show o + p * 2 + j = o + (p * 2 + j) by omega]
  refine hc _ u ?_
  have e1 : fiCells fs = fiCells (fs.take p) ++ fiCells (fs.drop p) := by rw [← fiCells_app, List.take_append_drop]
  have e2 : (fiCells (fs.take p)).length = p * 2 := by rw [fi_len, List.length_take]; omega
  rw [e1, List.getElem?_append_right (by omega), e2, show p * 2 + j - p * 2 = j by omega]
  exact hj
end Go.Proofs.YtaneifmbjkolaaaDoor
