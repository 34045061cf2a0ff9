/- Slices in memory, said by the list of their cells: reading them, appending to a slice of the call's own, copying, making; slices of bytes among them. -/
import Derived.WalkKit
import Derived.WalkSpells
import Derived.Maps.AppendAt
import Derived.Lib.Hide
import Derived.Laws.CopyOwn
namespace Go.Proofs.Ytfnkbpcimbldbaa
open Go.RowKit

/-- Cells in memory, below block B: nothing is asked of an empty slice's address. -/
def Cells (w : World) (B : Nat) (A : Option Addr) (xs : List Value) : Prop :=
  0 < xs.length → ∃ b o, A = some ⟨b, o, none⟩ ∧ b < B ∧ ∀ j u, xs[j]? = some u → w.cell? ⟨b, o + j, none⟩ = some u

theorem Cells.nil (w : World) (B : Nat) (A : Option Addr) : Cells w B A [] := fun h => absurd h (by simp)
theorem Cells.below {w w' : World} {B B' : Nat} {A : Option Addr} {xs : List Value} (h : Cells w B A xs) (hb : Below B' w w') (hB : B ≤ B') : Cells w' B A xs := fun hp => by
  obtain ⟨b, o, e, hbB, hc⟩ := h hp
  exact ⟨b, o, e, hbB, fun j x hx => (hb.cell (p := ⟨b, o + j, none⟩) (by show b < B'; omega)).trans (hc j x hx)⟩
theorem Cells.more {w : World} {B B' : Nat} {A : Option Addr} {xs : List Value} (h : Cells w B A xs) (hB : B ≤ B') : Cells w B' A xs := fun hp => by
  obtain ⟨b, o, e, hbB, hc⟩ := h hp
  exact ⟨b, o, e, by omega, hc⟩
theorem Cells.at_ {w : World} {B : Nat} {A : Option Addr} {xs : List Value} {k : Nat} (h : Cells w B A xs) (hk : k < xs.length) :
    ∃ b o u, A = some ⟨b, o, none⟩ ∧ b < B ∧ xs[k]? = some u ∧ w.cell? ⟨b, o + k, none⟩ = some u := by
  obtain ⟨b, o, e, hb, hc⟩ := h (by omega)
  exact ⟨b, o, xs[k], e, hb, List.getElem?_eq_getElem hk, hc k _ (List.getElem?_eq_getElem hk)⟩
theorem Cells.alloc {w : World} {B : Nat} {A : Option Addr} {xs : List Value} (h : Cells w B A xs) (hB : B ≤ w.heap.size) (o : Obj) : Cells (w.alloc o) B A xs :=
  h.below ((Below.refl _ _).alloc hB o) (Nat.le_refl _)
theorem Cells.drew {w : World} {B : Nat} {A : Option Addr} {xs : List Value} (h : Cells w B A xs) : Cells w.drew B A xs := h
/-- What the call owns reads so. -/
theorem Cells.of_own {w : World} {base : Nat} {e : TypeId} {A : Option Addr} {n c : Nat} {xs : List Value} (h : w.ownsRow base e 1 (.slice A n c) n xs) : Cells w w.heap.size A xs := fun hp => by
  obtain ⟨h1, h2⟩ := h
  rcases h2 with ⟨_, rfl⟩ | ⟨g, cap, cur, hv, hg, hh, hnc, hcm, hcs, htake⟩
  · omega
  · simp only [Value.slice.injEq] at hv
    obtain ⟨rfl, _, rfl⟩ := hv
    have hown : w.ownsRow base e 1 (.slice (some ⟨g, 0, none⟩) n c) n xs := ⟨h1, .inr ⟨g, c, cur, rfl, hg, hh, hnc, hcm, hcs, htake⟩⟩
    refine ⟨g, 0, rfl, (Array.getElem?_eq_some_iff.1 hh).1, fun j u hj => ?_⟩
    have hlt := (List.getElem?_eq_some_iff.1 hj).1
    rw [Nat.zero_add, hown.cellAt j (by omega)]
    exact hj
/-- An owned slice's form. -/
theorem own_form {w : World} {base : Nat} {e : TypeId} {v : Value} {n : Nat} {xs : List Value} (h : w.ownsRow base e 1 v n xs) : ∃ A c, v = .slice A n c := by
  rcases h.2 with ⟨rfl, rfl⟩ | ⟨g, cap, cur, rfl, _⟩
  · exact ⟨none, 0, rfl⟩
  · exact ⟨_, _, rfl⟩
/-- An empty slice literal. -/
theorem own_empty (w : World) (e : TypeId) {base : Nat} (hb : base ≤ w.heap.size) : (w.alloc (.cells #[] e)).ownsRow base e 1 (.slice (some ⟨w.heap.size, 0, none⟩) 0 0) 0 [] :=
  World.ownsRow_lit w #[] 0 hb (Nat.zero_le _) rfl

section
variable {P : Program} (w : World)

theorem run_append_cells (base : Nat) (t ty e : TypeId) (i : TypeInfo) (z : Value) (bytes : Nat) (ht : P.underlying t = some (.slice e)) (hi : P.info? e = some i) (hz : i.zero = some z)
    (hsize : i.size = 1) (hby : i.bytes = bytes) (hzs : z.cells.size = 1)
    (v : Value) (n : Nat) (xs : List Value) (hown : w.ownsRow base e 1 v n xs) (B : Nat) (A : Option Addr) (m c : Nat) (news : List Value) (hl : news.length = m) (hr : Cells w B A news)
    (h1 : ∀ u ∈ news, u.oneCell' = true) (h63 : n + m ≤ maxLen) (hbytes : (n + m) * bytes ≤ 140737488355328) (hbase : base ≤ w.heap.size) :
    ∃ A' c' w', (Builtin.append_ #[t, t] ty #[v, .slice A m c]).run P w = .ok (.slice A' (n + m) c') w' ∧ w'.ownsRow base e 1 (.slice A' (n + m) c') (n + m) (xs ++ news) ∧ w.grownBy w' v.ownBlock ∧
      ((Value.slice A' (n + m) c').ownBlock = v.ownBlock ∨ (Value.slice A' (n + m) c').ownBlock = some w.heap.size) := by
  have key : ∃ v' w', (Builtin.append_ #[t, t] ty #[v, .slice A m c]).run P w = .ok v' w' ∧ w'.ownsRow base e 1 v' (n + m) (xs ++ news) ∧ w.grownBy w' v.ownBlock ∧
      (v'.ownBlock = v.ownBlock ∨ v'.ownBlock = some w.heap.size) := by
    cases A with
    | none =>
      have hm : m = 0 := by
        rcases Nat.eq_zero_or_pos m with h0 | h0
        · exact h0
        · obtain ⟨_, _, h, _⟩ := hr (by omega)
          cases h
      subst hm
      have hn : news = [] := List.eq_nil_of_length_eq_zero hl
      subst hn
      refine ⟨v, w, ?_, by simpa using hown, ⟨rfl, rfl, rfl, Nat.le_refl _, fun _ _ _ => rfl⟩, .inl rfl⟩
      rcases hown.2 with ⟨rfl, rfl⟩ | ⟨g, cap, cur, rfl, _, _, hnc, _⟩
      · simp [Builtin.append_, run_underlying ht, sizeOf, typeInfo, hi, Builtin.lenOf, Builtin.firstCells]
      · simp [Builtin.append_, run_underlying ht, sizeOf, typeInfo, hi, Builtin.lenOf, Builtin.firstCells, hnc, storeCells]
    | some ad =>
      have hc : ∀ j u, news[j]? = some u → w.cell? (ad.add j) = some u := fun j u hj => by
        obtain ⟨b, o, e', _, hc⟩ := hr (by have := (List.getElem?_eq_some_iff.1 hj).1; omega)
        injection e' with e'
        subst e'
        have := hc j u hj
        unfold Addr.add
        split <;> simp_all
      obtain ⟨v', w', h1', h2, h3, _, h5⟩ := run_append_own_at (P := P) w base t ty e i z 1 bytes ht hi hz hsize hby hzs (by omega) v n xs hown ad m c news (by omega) hc h1 h63 hbytes hbase
      exact ⟨v', w', h1', h2, h3, h5⟩
  obtain ⟨v', w', hrun, h2, h3, h4⟩ := key
  obtain ⟨A', c', rfl⟩ := own_form h2
  exact ⟨A', c', w', hrun, h2, h3, h4⟩

theorem wpList_append_cells {ops : Array Oper} {rest : List Oper} {o : Oper} {a : Act} {Q : Exit → Act → World → Prop} (hgd : o.guard = none) (s x : Operand) (t : TypeId)
    (ho : o.op = .call { callee := .builtin .append, args := #[s, x], argTypes := #[t, t] })
    (base : Nat) (e : TypeId) (i : TypeInfo) (z : Value) (bytes : Nat) (ht : P.underlying t = some (.slice e)) (hi : P.info? e = some i) (hz : i.zero = some z)
    (hsize : i.size = 1) (hby : i.bytes = bytes) (hzs : z.cells.size = 1)
    (v : Value) (n : Nat) (xs : List Value) (hs : a.eval s = v) (hown : w.ownsRow base e 1 v n xs)
    (B : Nat) (A : Option Addr) (m c : Nat) (news : List Value) (hx : a.eval x = .slice A m c) (hl : news.length = m) (hr : Cells w B A news) (h1 : ∀ u ∈ news, u.oneCell' = true)
    (h63 : n + m ≤ maxLen) (hbytes : (n + m) * bytes ≤ 140737488355328) (hbase : base ≤ w.heap.size)
    (h : ∀ A' c' w', w'.ownsRow base e 1 (.slice A' (n + m) c') (n + m) (xs ++ news) → w.grownBy w' v.ownBlock → ((Value.slice A' (n + m) c').ownBlock = v.ownBlock ∨ (Value.slice A' (n + m) c').ownBlock = some w.heap.size) →
      wpList P ops Q rest (a.put o.dst (.slice A' (n + m) c')) w') : wpList P ops Q (o :: rest) a w := by
  refine wpList_plain hgd fun K hK => ?_
  obtain ⟨A', c', w', hr, h2, h3, h4⟩ := run_append_cells (P := P) w base t o.type e i z bytes ht hi hz hsize hby hzs v n xs hown B A m c news hl hr h1 h63 hbytes hbase
  unfold Oper.wp execOp
  simp only [ho, resolve, invoke, builtin, Sem.run_bind, Sem.run_pure, Result.andThen_ok, List.map_toArray, List.map_cons, List.map_nil, hs, hx, hr]
  exact hK _ _ (h A' c' w' h2 h3 h4)
end

/-- copy of a whole slice over a whole row of the call's own of the same length. -/
theorem wpList_copy_cells {P : Program} {w : World} {ops : Array Oper} {rest : List Oper} {o : Oper} {a : Act} {Q : Exit → Act → World → Prop} (hgd : o.guard = none) (d s : Operand) (dT sT : TypeId)
    (ho : o.op = .call { callee := .builtin .copy, args := #[d, s], argTypes := #[dT, sT] }) (elem : TypeId) (hu : P.underlying dT = some (.slice elem)) (hsz : (P.info? elem).map (·.size) = some 1)
    (A : Option Addr) (n dCap sCap g : Nat) (hd : a.eval d = .slice (some ⟨g, 0, none⟩) n dCap) (hs : a.eval s = .slice A n sCap)
    (cur : List Value) (t : TypeId) (hg : w.heap[g]? = some (.cells cur.toArray t (0, 0))) (hc : cur.length = n) (xs : List Value) (hn : xs.length = n) (B' : Nat) (hr : Cells w B' A xs)
    (h1 : ∀ v ∈ xs, v.oneCell' = true) (B : Nat) (w0 : World) (hb : Below B w0 w) (hBg : B ≤ g)
    (h : ∀ w', w'.heap[g]? = some (.cells xs.toArray t (0, 0)) → Below B w0 w' → wpList P ops Q rest (a.put o.dst (.int .i64 (n : Int))) w') :
    wpList P ops Q (o :: rest) a w := by
  refine wpList_copy_splice hgd d s dT sT ho elem hu hsz (some ⟨g, 0, none⟩) A n dCap n sCap hd hs g 0 cur t hg xs (by rw [hn]; simp) (fun hp => ⟨rfl, ?_⟩) (by omega) h1 B w0 hb hBg (fun w' h2 h3 => ?_)
  · obtain ⟨b, o', rfl, _, hcell⟩ := hr hp
    exact ⟨_, rfl, fun j v hj => by
      have := hcell j v hj
      unfold Addr.add
      split <;> simp_all⟩
  · have e : splice cur 0 xs = xs := by
      unfold splice
      rw [List.drop_of_length_le (by omega)]
      simp
    have h4 := h2.out
    rw [e] at h4
    have h5 := h w' h4 h3
    rw [← hn] at h5
    exact h5

/-- The cells of bytes. -/
def byteCells (bs : List UInt8) : List Value := bs.map fun x => Value.int .u8 (x.toNat : Int)
theorem byteCells_length (bs : List UInt8) : (byteCells bs).length = bs.length := by simp [byteCells]
theorem byteCells_append (a b : List UInt8) : byteCells (a ++ b) = byteCells a ++ byteCells b := by simp [byteCells]
theorem byteCells_get {bs : List UInt8} {j : Nat} {x : UInt8} (h : bs[j]? = some x) : (byteCells bs)[j]? = some (.int .u8 (x.toNat : Int)) := by simp [byteCells, h]
theorem byteCells_one (bs : List UInt8) : ∀ u ∈ byteCells bs, u.oneCell' = true := by
  intro u hu
  simp only [byteCells, List.mem_map] at hu
  obtain ⟨x, _, rfl⟩ := hu
  rfl

/-- Bytes in memory, below block B. -/
abbrev Bytes (w : World) (B : Nat) (A : Option Addr) (bs : List UInt8) : Prop := Cells w B A (byteCells bs)
/-- A slice of bytes of the call's own. -/
abbrev OwnB (w : World) (base : Nat) (e : TypeId) (v : Value) (n : Nat) (bs : List UInt8) : Prop := w.ownsRow base e 1 v n (byteCells bs)
theorem bytes_new (w : World) (T : TypeId) (fr : Nat × Nat) (bs : List UInt8) (C : Array Value) (hC : C = (bs.map fun x => Value.int .u8 (x.toNat : Int)).toArray) (g B : Nat) (hg : g = w.heap.size) (hB : g < B) :
    Bytes (w.alloc (.cells C T fr)) B (some ⟨g, 0, none⟩) bs := by
  subst hg hC
  refine fun _ => ⟨_, 0, rfl, hB, fun j u hu => ?_⟩
  rw [cell_of_row _ _ _ _ _ _ (heap_alloc_new w _)]
  simpa [byteCells] using hu
theorem get_lt {α : Type} {bs : List α} {k : Nat} (h : k < bs.length) : ∃ x, bs[k]? = some x := ⟨_, List.getElem?_eq_getElem h⟩

/-- 'string(b)' of bytes in memory. -/
theorem run_string_of {P : Program} {w : World} {B : Nat} {A : Option Addr} {bs : List UInt8} {l c : Nat} (src dst e : TypeId) (hs : P.underlying src = some (.slice e)) (he : P.underlying e = some (.int .u8)) (hd : P.underlying dst = some .string)
    (h : Bytes w B A bs) (hl : bs.length = l) : (convert src dst (.slice A l c)).run P w = .ok (.string ⟨bs.toArray⟩) w := by
  have he2 : strOfNums (bs.map fun x => (x.toNat : Int)) = ⟨bs.toArray⟩ := by
    unfold strOfNums
    congr 2
    rw [List.map_map]
    conv => rhs; rw [← List.map_id bs]
    apply List.map_congr_left
    intro x _
    simp
  rcases Nat.eq_zero_or_pos l with h0 | h0
  · subst h0
    have hn : bs = [] := List.eq_nil_of_length_eq_zero hl
    subst hn
    cases A with
    | none => exact run_convert_bytes_nil w src e hs he 0 c dst hd
    | some ad =>
      rw [run_convert_bytes_string w src dst e (some ad) 0 c hs he hd, run_bytesToString w ad 0 c [] (by simp [loadCells, loadCellsFrom])]
      rfl
  · obtain ⟨b, o, rfl, _, hc⟩ := h (by rw [byteCells_length]; omega)
    rw [run_convert_bytes_arg (P := P) w src e hs he b o l c (bs.map fun x => (x.toNat : Int)) (by simpa using hl) (fun j hj => ?_) dst hd, he2]
    have hj' : j < bs.length := by omega
    rw [hc j _ (byteCells_get (List.getElem?_eq_getElem hj'))]
    simp [List.getD, hj']
end Go.Proofs.Ytfnkbpcimbldbaa
