/- Rows of bytes that may bear the mark of a text: append of zeros. -/
import Derived.Test.YtpokicngpapkcaaTail
import Derived.Test.YtpokicngpapkcaaMoves
namespace Go.Proofs.Ytpokicngpapkcaa
open Go.RowKit

section
variable {P : Program} (w : World)
/-- append(s, make([]T, k)...). -/
theorem run_appT_zeros {t e : TypeId} {z : Value} {bytes : Nat} (E : Elem P t e z 1 bytes) (tn : TypeId) (kn : IntKind) (htn : P.underlying tn = some (.int kn)) (hz1 : (z.cells[0]!).oneCell' = true) (base : Nat) (ty : TypeId)
    (v : Value) (n : Nat) (xs : List Value) (hown : OwnT w base e v n xs) (kq : IntKind) (k : Nat) (hk0 : 0 < k)
    (h63 : n + k ≤ maxLen) (hbytes : (n + k) * bytes ≤ 140737488355328) (hbase : base ≤ w.heap.size) :
    ∃ A' c' w', (Builtin.append_ #[t, tn] ty #[v, .int kq k]).run P w = .ok (.slice A' (n + k) c') w' ∧ AppT w base e v (n + k) (xs ++ List.replicate k (z.cells[0]!)) w' (.slice A' (n + k) c') := by
  obtain ⟨ht, ⟨i, hi, hz, hsize, hby⟩, hzs, hpos⟩ := E
  subst hby
  have hm : maxLen ≤ 9223372036854775807 := by unfold maxLen; omega
  have hw : IntKind.i64.wrap (k : Int) = k := by rw [IntKind.wrap_i64]; omega
  have hkb : k * i.bytes ≤ 140737488355328 := Nat.le_trans (Nat.mul_le_mul_right _ (by omega)) hbytes
  have h48i : ¬ (281474976710656 < (k : Int) * (i.bytes : Int)) := by rw [← Int.natCast_mul]; omega
  have hneg : ¬ ((k : Int) < 0) := by omega
  have hk : k ≠ 0 := by omega
  have hlr : (List.replicate k (z.cells[0]!)).length = k := List.length_replicate
  have hzl : Builtin.zeroCells z.cells k = (List.replicate k (z.cells[0]!)).toArray := by rw [← zeroCells_one z hzs k]
  rcases hown.2 with ⟨rfl, rfl⟩ | ⟨g, cap, cur, fz, rfl, hbg, hg, hfz, hnc, hcm, hcs, htake⟩
  · obtain rfl : xs = [] := List.eq_nil_of_length_eq_zero hown.1
    have hr := Lib.run_append_nil_zeros (P := P) w t tn ty e i z kq kn ht htn hi hz k hk0 (by omega) (by omega) (by omega)
    refine ⟨_, _, _, by simpa using hr, ?_⟩
    have := grownT w (base := base) (e := e) (v := .slice none 0 0) (n := 0) (m := k) (old := 0) (xs := []) (news := List.replicate k (z.cells[0]!)) (zs := (Builtin.zeroCells z.cells (grownCap w (0 + k) 0 e - (0 + k))).toList) (C := Builtin.zeroCells z.cells k ++ Builtin.zeroCells z.cells (grownCap w (0 + k) 0 e - (0 + k))) rfl hlr h63 hbase (by rw [hzl]; simp) (zeroCells_len1 z hzs _)
    simpa using this
  · by_cases hroom : n + k ≤ cap
    · have hst := run_storeCells_tail P g n e fz (List.replicate k (z.cells[0]!)) 0 cur w hg hfz (by rw [hlr]; omega) (by intro u hu; rw [List.eq_of_mem_replicate hu]; exact hz1)
      simp only [Nat.add_zero, hlr] at hst
      refine ⟨_, _, _, ?_, roomT w hown.1 hlr hbg hg hfz hcm hcs htake hroom⟩
      simp [Builtin.append_, run_underlying ht, run_underlying htn, sizeOf, typeInfo, zeroValue, hi, hz, asInt, asIntOf, hw, hneg, h48i, hsize, hk, hroom, Addr.add_lit, hzl]
      simp at hst
      simp [hst]
    · have holds : ∀ j u, xs[j]? = some u → w.cell? ((⟨g, 0, none⟩ : Addr).add j) = some u := fun j u hj => by
        obtain ⟨b', o', e1, _, hc⟩ := hown.cells (by have := (List.getElem?_eq_some_iff.1 hj).1; omega)
        simp only [Option.some.injEq, Addr.mk.injEq] at e1
        obtain ⟨rfl, rfl, _⟩ := e1
        have hadd0 : (⟨g, 0, none⟩ : Addr).add j = ⟨g, 0 + j, none⟩ := by unfold Addr.add; split <;> simp_all
        rw [hadd0]
        exact hc j u hj
      have hold := run_firstCells_some (P := P) w.drew i.size n ⟨g, 0, none⟩ n cap xs (by rw [hsize, hown.1, Nat.mul_one]) (fun j u hj => holds j u hj)
      refine ⟨_, _, _, Lib.run_append_grow_zeros (P := P) w t tn ty e i z kq kn ht htn hi hz _ n cap xs hold k hk0 (by omega) (by omega) (by omega) (by omega) (growslice_fits (by omega) hbytes), ?_⟩
      exact grownT w (zs := (Builtin.zeroCells z.cells (grownCap w (n + k) cap e - (n + k))).toList) hown.1 hlr h63 hbase (by rw [hzl]; simp) (zeroCells_len1 z hzs _)
theorem wpList_appT_zeros {ops : Array Oper} {rest : List Oper} {o : Oper} {a : Act} {Q : Exit → Act → World → Prop} {t e : TypeId} {z : Value} {bytes : Nat} (E : Elem P t e z 1 bytes) (tn : TypeId) (kn : IntKind) (htn : P.underlying tn = some (.int kn)) (hz1 : (z.cells[0]!).oneCell' = true) (hgd : o.guard = none) (s x : Operand)
    (ho : o.op = .call { callee := .builtin .append, args := #[s, x], argTypes := #[t, tn] }) (base : Nat)
    (v : Value) (n : Nat) (xs : List Value) (hs : a.eval s = v) (hown : OwnT w base e v n xs) (kq : IntKind) (k : Nat) (ki : Int) (hki : ki = (k : Int)) (hx : a.eval x = .int kq ki) (hk0 : 0 < k)
    (h63 : n + k ≤ maxLen) (hbytes : (n + k) * bytes ≤ 140737488355328) (hbase : base ≤ w.heap.size)
    (h : ∀ A' c' w', AppT w base e v (n + k) (xs ++ List.replicate k (z.cells[0]!)) w' (.slice A' (n + k) c') → wpList P ops Q rest (a.put o.dst (.slice A' (n + k) c')) w') : wpList P ops Q (o :: rest) a w := by
  refine wpList_plain hgd fun K hK => ?_
  subst hki
  obtain ⟨A', c', w', hr, h2⟩ := run_appT_zeros (P := P) w E tn kn htn hz1 base o.type v n xs hown kq k hk0 h63 hbytes hbase
  unfold Oper.wp execOp
  simp only [ho, resolve, invoke, builtin, Sem.run_bind, Sem.run_pure, Result.andThen_ok, List.map_toArray, List.map_cons, List.map_nil, hs, hx, hr]
  exact hK _ _ (h A' c' w' h2)
end
end Go.Proofs.Ytpokicngpapkcaa
