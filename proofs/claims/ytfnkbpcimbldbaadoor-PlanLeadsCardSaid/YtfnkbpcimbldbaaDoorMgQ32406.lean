/- Slices in memory, said by the list of their cells: reading them, appending to a slice of the call's own, copying, making; slices of bytes among them. -/
import Derived.WalkKit
import Derived.WalkSpells
import Derived.Maps.AppendAt
import Derived.Lib.Hide
import Derived.Laws.CopyOwn
import Derived.Maps.Range
import Derived.OwnWalk
namespace Go.Proofs.YtfnkbpcimbldbaaDoor
open Go.RowKit

/-- Cells in memory, below block B: nothing is asked of an empty slice's address. -/
def Cells (w : World) (B : Nat) (A : Option Addr) (xs : List Value) : Prop :=
  0 < xs.length → ∃ b o, A = some ⟨b, o, none⟩ ∧ b < B ∧ ∀ j u, xs[j]? = some u → w.cell? ⟨b, o + j, none⟩ = some u

theorem Cells.nil (w : World) (B : Nat) (A : Option Addr) : Cells w B A [] := fun h => absurd h (by simp)
theorem Cells.below {w w' : World} {B B' : Nat} {A : Option Addr} {xs : List Value} (h : Cells w B A xs) (hb : Below B' w w') (hB : B ≤ B') : Cells w' B A xs := fun hp => by
  obtain ⟨b, o, e, hbB, hc⟩ := h hp
  exact ⟨b, o, e, hbB, fun j x hx => (hb.cell (p := ⟨b, o + j, none⟩) (by show b < B'; omega)).trans (hc j x hx)⟩
theorem Cells.more {w : World} {B B' : Nat} {A : Option Addr} {xs : List Value} (h : Cells w B A xs) (hB : B ≤ B') : Cells w B' A xs := fun hp => by
  obtain ⟨b, o, e, hbB, hc⟩ := h hp
  exact ⟨b, o, e, by omega, hc⟩
theorem Cells.alloc {w : World} {B : Nat} {A : Option Addr} {xs : List Value} (h : Cells w B A xs) (hB : B ≤ w.heap.size) (o : Obj) : Cells (w.alloc o) B A xs :=
  h.below ((Below.refl _ _).alloc hB o) (Nat.le_refl _)
theorem Cells.drew {w : World} {B : Nat} {A : Option Addr} {xs : List Value} (h : Cells w B A xs) : Cells w.drew B A xs := h
/-- What the call owns reads so. -/
theorem Cells.of_own {w : World} {base : Nat} {e : TypeId} {A : Option Addr} {n c : Nat} {xs : List Value} (h : w.ownsRow base e 1 (.slice A n c) n xs) : Cells w w.heap.size A xs := fun hp => by
  obtain ⟨h1, h2⟩ := h
  rcases h2 with ⟨_, rfl⟩ | ⟨g, cap, cur, hv, hg, hh, hnc, hcm, hcs, htake⟩
  · omega
  · simp only [Value.slice.injEq] at hv
    obtain ⟨rfl, _, rfl⟩ := hv
    have hown : w.ownsRow base e 1 (.slice (some ⟨g, 0, none⟩) n c) n xs := ⟨h1, .inr ⟨g, c, cur, rfl, hg, hh, hnc, hcm, hcs, htake⟩⟩
    refine ⟨g, 0, rfl, (Array.getElem?_eq_some_iff.1 hh).1, fun j u hj => ?_⟩
    have hlt := (List.getElem?_eq_some_iff.1 hj).1
    rw [Nat.zero_add, hown.cellAt j (by omega)]
    exact hj
/-- An owned slice's form. -/
theorem own_form {w : World} {base : Nat} {e : TypeId} {v : Value} {n : Nat} {xs : List Value} (h : w.ownsRow base e 1 v n xs) : ∃ A c, v = .slice A n c := by
  rcases h.2 with ⟨rfl, rfl⟩ | ⟨g, cap, cur, rfl, _⟩
  · exact ⟨none, 0, rfl⟩
  · exact ⟨_, _, rfl⟩
section
variable {P : Program} (w : World)

end

/-- The cells of bytes. -/
def byteCells (bs : List UInt8) : List Value := bs.map fun x => Value.int .u8 (x.toNat : Int)
theorem byteCells_length (bs : List UInt8) : (byteCells bs).length = bs.length := by simp [byteCells]
theorem byteCells_get {bs : List UInt8} {j : Nat} {x : UInt8} (h : bs[j]? = some x) : (byteCells bs)[j]? = some (.int .u8 (x.toNat : Int)) := by simp [byteCells, h]
/-- Bytes in memory, below block B. -/
abbrev Bytes (w : World) (B : Nat) (A : Option Addr) (bs : List UInt8) : Prop := Cells w B A (byteCells bs)
/-- 'string(b)' of bytes in memory. -/
theorem run_string_of {P : Program} {w : World} {B : Nat} {A : Option Addr} {bs : List UInt8} {l c : Nat} (src dst e : TypeId) (hs : P.underlying src = some (.slice e)) (he : P.underlying e = some (.int .u8)) (hd : P.underlying dst = some .string)
    (h : Bytes w B A bs) (hl : bs.length = l) : (convert src dst (.slice A l c)).run P w = .ok (.string ⟨bs.toArray⟩) w := by
  have he2 : strOfNums (bs.map fun x => (x.toNat : Int)) = ⟨bs.toArray⟩ := by
    unfold strOfNums
    congr 2
    rw [List.map_map]
    conv => rhs; rw [← List.map_id bs]
    apply List.map_congr_left
    intro x _
    simp
  rcases Nat.eq_zero_or_pos l with h0 | h0
  · subst h0
    have hn : bs = [] := List.eq_nil_of_length_eq_zero hl
    subst hn
    cases A with
    | none => exact run_convert_bytes_nil w src e hs he 0 c dst hd
    | some ad =>
      rw [run_convert_bytes_string w src dst e (some ad) 0 c hs he hd, run_bytesToString w ad 0 c [] (by simp [loadCells, loadCellsFrom])]
      rfl
  · obtain ⟨b, o, rfl, _, hc⟩ := h (by rw [byteCells_length]; omega)
    rw [run_convert_bytes_arg (P := P) w src e hs he b o l c (bs.map fun x => (x.toNat : Int)) (by simpa using hl) (fun j hj => ?_) dst hd, he2]
    have hj' : j < bs.length := by omega
    rw [hc j _ (byteCells_get (List.getElem?_eq_getElem hj'))]
    simp [List.getD, hj']
end Go.Proofs.YtfnkbpcimbldbaaDoor
/- append to a slice of the call's own, elements of any size: what was owned before, what is owned behind, and that nothing else has turned. -/
namespace Go.Proofs.YtfnkbpcimbldbaaDoor
open Go.RowKit

/-- What a slice's element type is: its row of the table. -/
structure Elem (P : Program) (t e : TypeId) (z : Value) (size bytes : Nat) : Prop where
  ht : P.underlying t = some (.slice e)
  inf : ∃ i, P.info? e = some i ∧ i.zero = some z ∧ i.size = size ∧ i.bytes = bytes
  hz : z.cells.size = size
  hpos : 0 < size
theorem Elem.of {P : Program} {t e : TypeId} {z : Value} {size bytes : Nat} (ht : P.underlying t = some (.slice e)) (hi : (P.info? e).map (fun i => (i.zero, i.size, i.bytes)) = some (some z, size, bytes)) (hz : z.cells.size = size) (hpos : 0 < size) : Elem P t e z size bytes := by
  obtain ⟨i, h1, h2, h3, h4⟩ := info_parts hi
  exact ⟨ht, ⟨i, h1, h2, h3, h4⟩, hz, hpos⟩

/-- From w to w' the slice v, of the call's own, became v', which owns n elements, the cells xs: nothing else has turned. -/
structure App (w : World) (base : Nat) (e : TypeId) (size : Nat) (v : Value) (n : Nat) (xs : List Value) (w' : World) (v' : Value) : Prop where
  own : w'.ownsRow base e size v' n xs
  grow : w.grownBy w' v.ownBlock
  loc : v'.ownBlock = v.ownBlock ∨ ∃ g, v'.ownBlock = some g ∧ w.heap.size ≤ g

section
variable {w w1 w2 : World} {base : Nat} {e : TypeId} {size : Nat} {v v1 v2 : Value} {n m : Nat} {xs ys : List Value}
theorem App.start (h : w.ownsRow base e size v n xs) : App w base e size v n xs w v := ⟨h, World.grownBy.refl _ _, .inl rfl⟩
theorem App.trans (h : App w base e size v n xs w1 v1) (k : App w1 base e size v1 m ys w2 v2) : App w base e size v m ys w2 v2 := by
  have hs := h.grow.size
  refine ⟨k.own, h.grow.andThen k.grow fun j hj => ?_, ?_⟩
  · rcases h.loc with hl | ⟨g, hl, hg⟩
    · exact .inr (by rw [← hl]; exact hj)
    · rw [hl] at hj
      injection hj with hj
      exact .inl (by omega)
  · rcases k.loc with hk | ⟨g, hk, hg⟩
    · rcases h.loc with hl | ⟨g, hl, hg⟩
      · exact .inl (hk.trans hl)
      · exact .inr ⟨g, hk.trans hl, hg⟩
    · exact .inr ⟨g, hk, by omega⟩
/-- A block was made ahead of the append. -/
theorem App.behind (o : Obj) (k : App (w.alloc o) base e size v n xs w2 v2) : App w base e size v n xs w2 v2 := by
  refine ⟨k.own, (World.grownBy_alloc w o v.ownBlock).andThen k.grow fun j hj => .inr hj, ?_⟩
  rcases k.loc with hk | ⟨g, hk, hg⟩
  · exact .inl hk
  · exact .inr ⟨g, hk, by simp at hg; omega⟩
theorem App.alloc (h : App w base e size v n xs w1 v1) (o : Obj) : App w base e size v n xs (w1.alloc o) v1 :=
  ⟨h.own.alloc o, h.grow.andThen (World.grownBy_alloc w1 o none) (fun _ hj => by cases hj), h.loc⟩
theorem App.drew (h : App w base e size v n xs w1 v1) : App w base e size v n xs w1.drew v1 :=
  ⟨h.own.drew, ⟨h.grow.os, h.grow.tape, h.grow.output, h.grow.size, h.grow.block⟩, h.loc⟩
theorem App.below {B : Nat} {W : World} (h : App w base e size v n xs w1 v1) (hb : Below B W w) (hB : B ≤ w.heap.size) (hv : ∀ k, v.ownBlock = some k → B ≤ k) : Below B W w1 := hb.grown h.grow hB hv
theorem App.form (h : App w base e 1 v n xs w1 v1) : ∃ A c, v1 = .slice A n c := own_form h.own
end

section
variable {P : Program} (w : World)

theorem own_form' {w : World} {base : Nat} {e : TypeId} {size : Nat} {v : Value} {n : Nat} {xs : List Value} (h : w.ownsRow base e size v n xs) : ∃ A c, v = .slice A n c := by
  rcases h.2 with ⟨rfl, rfl⟩ | ⟨g, cap, cur, rfl, _⟩
  · exact ⟨none, 0, rfl⟩
  · exact ⟨_, _, rfl⟩

theorem run_append_own_any {t e : TypeId} {z : Value} {size bytes : Nat} (E : Elem P t e z size bytes) (base : Nat) (ty : TypeId)
    (v : Value) (n : Nat) (xs : List Value) (hown : w.ownsRow base e size v n xs) (B : Nat) (A : Option Addr) (m c : Nat) (news : List Value) (hl : news.length = m * size) (hr : Cells w B A news)
    (h1 : ∀ u ∈ news, u.oneCell' = true) (h63 : n + m ≤ maxLen) (hbytes : (n + m) * bytes ≤ 140737488355328) (hbase : base ≤ w.heap.size) :
    ∃ A' c' w', (Builtin.append_ #[t, t] ty #[v, .slice A m c]).run P w = .ok (.slice A' (n + m) c') w' ∧ App w base e size v (n + m) (xs ++ news) w' (.slice A' (n + m) c') := by
  obtain ⟨ht, ⟨i, hi, hz, hsize, hby⟩, hzs, hpos⟩ := E
  have key : ∃ v' w', (Builtin.append_ #[t, t] ty #[v, .slice A m c]).run P w = .ok v' w' ∧ w'.ownsRow base e size v' (n + m) (xs ++ news) ∧ w.grownBy w' v.ownBlock ∧
      (v'.ownBlock = v.ownBlock ∨ v'.ownBlock = some w.heap.size) := by
    cases A with
    | none =>
      have hm : m = 0 := by
        rcases Nat.eq_zero_or_pos m with h0 | h0
        · exact h0
        · obtain ⟨_, _, h, _⟩ := hr (by rw [hl]; exact Nat.mul_pos h0 hpos)
          cases h
      subst hm
      have hn : news = [] := List.eq_nil_of_length_eq_zero (by simpa using hl)
      subst hn
      refine ⟨v, w, ?_, by simpa using hown, ⟨rfl, rfl, rfl, Nat.le_refl _, fun _ _ _ => rfl⟩, .inl rfl⟩
      rcases hown.2 with ⟨rfl, rfl⟩ | ⟨g, cap, cur, rfl, _, _, hnc, _⟩
      · simp [Builtin.append_, run_underlying ht, sizeOf, typeInfo, hi, Builtin.lenOf, Builtin.firstCells]
      · simp [Builtin.append_, run_underlying ht, sizeOf, typeInfo, hi, Builtin.lenOf, Builtin.firstCells, hnc, storeCells]
    | some ad =>
      have hc : ∀ j u, news[j]? = some u → w.cell? (ad.add j) = some u := fun j u hj => by
        obtain ⟨b, o, e', _, hc⟩ := hr (by have := (List.getElem?_eq_some_iff.1 hj).1; omega)
        injection e' with e'
        subst e'
        have := hc j u hj
        unfold Addr.add
        split <;> simp_all
      obtain ⟨v', w', h1', h2, h3, _, h5⟩ := run_append_own_at (P := P) w base t ty e i z size bytes ht hi hz hsize hby hzs hpos v n xs hown ad m c news hl hc h1 h63 hbytes hbase
      exact ⟨v', w', h1', h2, h3, h5⟩
  obtain ⟨v', w', hrun, h2, h3, h4⟩ := key
  obtain ⟨A', c', rfl⟩ := own_form' h2
  refine ⟨A', c', w', hrun, h2, h3, ?_⟩
  rcases h4 with h4 | h4
  · exact .inl h4
  · exact .inr ⟨_, h4, Nat.le_refl _⟩

/-- append(s, x...): the rows of the source in memory. -/
theorem wpList_app {ops : Array Oper} {rest : List Oper} {o : Oper} {a : Act} {Q : Exit → Act → World → Prop} {t e : TypeId} {z : Value} {size bytes : Nat} (E : Elem P t e z size bytes) (hgd : o.guard = none) (s x : Operand)
    (ho : o.op = .call { callee := .builtin .append, args := #[s, x], argTypes := #[t, t] }) (base : Nat)
    (v : Value) (n : Nat) (xs : List Value) (hs : a.eval s = v) (hown : w.ownsRow base e size v n xs)
    (B : Nat) (A : Option Addr) (m c : Nat) (news : List Value) (hx : a.eval x = .slice A m c) (hl : news.length = m * size) (hr : Cells w B A news) (h1 : ∀ u ∈ news, u.oneCell' = true)
    (h63 : n + m ≤ maxLen) (hbytes : (n + m) * bytes ≤ 140737488355328) (hbase : base ≤ w.heap.size)
    (h : ∀ A' c' w', App w base e size v (n + m) (xs ++ news) w' (.slice A' (n + m) c') → wpList P ops Q rest (a.put o.dst (.slice A' (n + m) c')) w') : wpList P ops Q (o :: rest) a w := by
  refine wpList_plain hgd fun K hK => ?_
  obtain ⟨A', c', w', hr, h2⟩ := run_append_own_any (P := P) w E base o.type v n xs hown B A m c news hl hr h1 h63 hbytes hbase
  unfold Oper.wp execOp
  simp only [ho, resolve, invoke, builtin, Sem.run_bind, Sem.run_pure, Result.andThen_ok, List.map_toArray, List.map_cons, List.map_nil, hs, hx, hr]
  exact hK _ _ (h A' c' w' h2)

/-- append(s, u): one element; the block that holds it was just made. -/
theorem wpList_app1 {ops : Array Oper} {rest : List Oper} {o : Oper} {a : Act} {Q : Exit → Act → World → Prop} {t e : TypeId} {z : Value} {size bytes : Nat} (E : Elem P t e z size bytes) (hgd : o.guard = none) (s x : Operand)
    (ho : o.op = .call { callee := .builtin .append, args := #[s, x], argTypes := #[t, t] }) (base : Nat)
    (v : Value) (n : Nat) (xs : List Value) (hs : a.eval s = v) (hown : w.ownsRow base e size v n xs)
    (C : Array Value) (hx : a.eval x = .slice (some ⟨w.heap.size, 0, none⟩) 1 1) (hC : C.size = size) (h1 : ∀ u ∈ C.toList, u.oneCell' = true)
    (h63 : n + 1 ≤ maxLen) (hbytes : (n + 1) * bytes ≤ 140737488355328) (hbase : base ≤ w.heap.size)
    (h : ∀ A' c' w', App w base e size v (n + 1) (xs ++ C.toList) w' (.slice A' (n + 1) c') → wpList P ops Q rest (a.put o.dst (.slice A' (n + 1) c')) w') : wpList P ops Q (o :: rest) a (w.alloc (.cells C e)) := by
  refine wpList_app (w.alloc (.cells C e)) E hgd s x ho base v n xs hs (hown.alloc _) (w.heap.size + 1) (some ⟨w.heap.size, 0, none⟩) 1 1 C.toList hx (by rw [Nat.one_mul]; exact hC) ?_ h1 h63 hbytes (by simp; omega)
    (fun A' c' w' hA => h A' c' w' hA.behind)
  refine fun _ => ⟨_, 0, rfl, Nat.lt_succ_self _, fun j u hu => ?_⟩
  rw [cell_of_row _ _ _ _ _ _ (heap_alloc_new w _)]
  simpa using hu

/-- At a step of a region that draws its order. -/
theorem step_app {ops : Array Oper} {o : Oper} {a : Act} {K : Act → World → Prop} {Q : Exit → Act → World → Prop} {F : Prop} {t e : TypeId} {z : Value} {size bytes : Nat} (E : Elem P t e z size bytes) (hgd : o.guard = none) (s x : Operand)
    (ho : o.op = .call { callee := .builtin .append, args := #[s, x], argTypes := #[t, t] }) (base : Nat)
    (v : Value) (n : Nat) (xs : List Value) (hs : a.eval s = v) (hown : w.ownsRow base e size v n xs)
    (B : Nat) (A : Option Addr) (m c : Nat) (news : List Value) (hx : a.eval x = .slice A m c) (hl : news.length = m * size) (hr : Cells w B A news) (h1 : ∀ u ∈ news, u.oneCell' = true)
    (h63 : n + m ≤ maxLen) (hbytes : (n + m) * bytes ≤ 140737488355328) (hbase : base ≤ w.heap.size)
    (h : ∀ A' c' w', App w base e size v (n + m) (xs ++ news) w' (.slice A' (n + m) c') → K (a.put o.dst (.slice A' (n + m) c')) w') :
    if Region.wanted o (yielded ops a.tmps) = true then Oper.wp P o a w K Q else F := by
  have hw : Region.wanted o (yielded ops a.tmps) = true := by simp [Region.wanted, hgd]
  rw [if_pos hw]
  obtain ⟨A', c', w', hr, h2⟩ := run_append_own_any (P := P) w E base o.type v n xs hown B A m c news hl hr h1 h63 hbytes hbase
  unfold Oper.wp execOp
  simp only [ho, resolve, invoke, builtin, Sem.run_bind, Sem.run_pure, Result.andThen_ok, List.map_toArray, List.map_cons, List.map_nil, hs, hx, hr]
  exact h A' c' w' h2
end
end Go.Proofs.YtfnkbpcimbldbaaDoor
