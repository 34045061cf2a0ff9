/- append of one element: the slice that was appended to reads as it did. -/
import Derived.Test.YtkgkefifcpneiaaDoorFoot
import Derived.Deep.DeepAppendRoom
namespace Go.Proofs.YtkgkefifcpneiaaDoor
open Go.RowKit

theorem own_prefix33 {w : World} {base : Nat} {e : TypeId} {size n m c g : Nat} {xs ys : List Value} (h : w.ownsRow base e size (.slice (some ⟨g, 0, none⟩) (n + m) c) (n + m) (xs ++ ys)) (hx : xs.length = n * size) : w.ownsRow base e size (.slice (some ⟨g, 0, none⟩) n c) n xs := by
  rcases h.2 with ⟨h2, _⟩ | ⟨g', cap, cur, hv, hg, hh, hnc, hcm, hcs, htake⟩
  · cases h2
  · simp only [Value.slice.injEq, Option.some.injEq, Addr.mk.injEq] at hv
    obtain ⟨⟨rfl, _, _⟩, _, rfl⟩ := hv
    refine ⟨hx, .inr ⟨g, c, cur, rfl, hg, hh, by omega, hcm, hcs, ?_⟩⟩
    have h3 := congrArg (List.take (n * size)) htake
    rw [List.take_take, Nat.min_eq_left (Nat.mul_le_mul_right _ (by omega))] at h3
    rw [h3, ← hx, List.take_left]
theorem run_app_keep {P : Program} (w : World) {t e : TypeId} {z : Value} {size bytes : Nat} (E : Elem P t e z size bytes) (base : Nat) (ty : TypeId)
    (v : Value) (n : Nat) (xs : List Value) (hown : w.ownsRow base e size v n xs) (B : Nat) (A : Addr) (m c : Nat) (news : List Value) (hl : news.length = m * size) (hr : Cells w B (some A) news)
    (h1 : ∀ u ∈ news, u.oneCell' = true) (h63 : n + m ≤ maxLen) (hbytes : (n + m) * bytes ≤ 140737488355328) (hbase : base ≤ w.heap.size) :
    ∃ A' c' w', (Builtin.append_ #[t, t] ty #[v, .slice (some A) m c]).run P w = .ok (.slice A' (n + m) c') w' ∧ App w base e size v (n + m) (xs ++ news) w' (.slice A' (n + m) c') ∧ w'.ownsRow base e size v n xs := by
  obtain ⟨A', c', w', hrun, hA⟩ := run_append_own_any (P := P) w E base ty v n xs hown B (some A) m c news hl hr h1 h63 hbytes hbase
  refine ⟨A', c', w', hrun, hA, ?_⟩
  obtain ⟨ht, ⟨i, hi, hz, hsize, hby⟩, hzs, hpos⟩ := E
  have hc : ∀ j u, news[j]? = some u → w.cell? (A.add j) = some u := fun j u hj => by
    obtain ⟨b, o, e', _, hc⟩ := hr (by have := (List.getElem?_eq_some_iff.1 hj).1; omega)
    injection e' with e'
    subst e'
    have := hc j u hj
    unfold Addr.add
    split <;> simp_all
  rcases hown.2 with ⟨rfl, rfl⟩ | ⟨g, cap, cur, rfl, hbg, hg, hnc, hcm, hcs, htake⟩
  · have : xs = [] := List.eq_nil_of_length_eq_zero (by simpa using hown.1)
    subst this
    exact World.ownsRow_nil ..
  · by_cases hroom : n + m ≤ cap
    · obtain ⟨w2, hr2, h2, h3⟩ := run_append_own_spare (P := P) w base t ty e i size ht hi hsize g n cap xs hown A m c news hl hc h1 hroom
      rw [hrun] at hr2
      injection hr2 with hv hw
      subst hw
      exact own_prefix33 h2 hown.1
    · have hsm : n + m ≤ 9223372036854775807 := by unfold maxLen at h63; omega
      have holds : ∀ j u, xs[j]? = some u → w.cell? ((⟨g, 0, none⟩ : Addr).add j) = some u := hown.cells (g := g) rfl
      subst hsize hby
      have hr2 := run_append_grow (P := P) w t ty e i z ht hi hz ⟨g, 0, none⟩ n cap xs hown.1 holds A m c news hl hc (by omega) (by omega) (growslice_fits (by omega) hbytes)
      rw [hrun] at hr2
      injection hr2 with hv hw
      rw [hw]
      exact own_keep hown (((Mod.refl noB w).drew).alloc _) (fun _ _ h => h)
theorem wpList_app1K {P : Program} (w : World) {ops : Array Oper} {rest : List Oper} {o : Oper} {a : Act} {Q : Exit → Act → World → Prop} {t e : TypeId} {z : Value} {size bytes : Nat} (E : Elem P t e z size bytes) (hgd : o.guard = none) (s x : Operand)
    (ho : o.op = .call { callee := .builtin .append, args := #[s, x], argTypes := #[t, t] }) (base : Nat)
    (v : Value) (n : Nat) (xs : List Value) (hs : a.eval s = v) (hown : w.ownsRow base e size v n xs)
    (C : Array Value) (hx : a.eval x = .slice (some ⟨w.heap.size, 0, none⟩) 1 1) (hC : C.size = size) (h1 : ∀ u ∈ C.toList, u.oneCell' = true)
    (h63 : n + 1 ≤ maxLen) (hbytes : (n + 1) * bytes ≤ 140737488355328) (hbase : base ≤ w.heap.size)
    (h : ∀ A' c' w', App w base e size v (n + 1) (xs ++ C.toList) w' (.slice A' (n + 1) c') → w'.ownsRow base e size v n xs → wpList P ops Q rest (a.put o.dst (.slice A' (n + 1) c')) w') : wpList P ops Q (o :: rest) a (w.alloc (.cells C e)) := by
  refine wpList_plain hgd fun K hK => ?_
  obtain ⟨A', c', w', hr, h2, h3⟩ := run_app_keep (P := P) (w.alloc (.cells C e)) E base o.type v n xs (hown.alloc _) (w.heap.size + 1) ⟨w.heap.size, 0, none⟩ 1 1 C.toList (by rw [Nat.one_mul]; exact hC) (fun _ => ⟨_, 0, rfl, Nat.lt_succ_self _, fun j u hu => by
    rw [cell_of_row _ _ _ _ _ _ (heap_alloc_new w _)]
    simpa using hu⟩) h1 h63 hbytes (by simp; omega)
  unfold Oper.wp execOp
  simp only [ho, resolve, invoke, builtin, Sem.run_bind, Sem.run_pure, Result.andThen_ok, List.map_toArray, List.map_cons, List.map_nil, hs, hx, hr]
  exact hK _ _ (h A' c' w' h2.behind h3)
end Go.Proofs.YtkgkefifcpneiaaDoor
