/- Rows of bytes of the call's own that may bear the mark of '[]byte(text)' behind their last cell: append to them, of a slice or a text. -/
import Derived.Test.YtfnkbpcimbldbaaDoorMgQ32408
import Derived.Test.YtfnkbpcimbldbaaDoorMgQ324SBytesIn
import Derived.Laws.IdiomStrings
import Derived.Lib.FrozenHead
namespace Go.Proofs.YtfnkbpcimbldbaaDoor
open Go.RowKit

/-- A block of cells. -/
def Box (w : World) (g : Nat) (cs : Array Value) (t : TypeId) : Prop := w.heap[g]? = some (.cells cs t (0, 0))
theorem Box.cell {w : World} {g : Nat} {cs : Array Value} {t : TypeId} (h : Box w g cs t) (i : Nat) : w.cell? ⟨g, i, none⟩ = cs[i]? := cell_of_row w g i _ _ _ h
theorem Box.lt {w : World} {g : Nat} {cs : Array Value} {t : TypeId} (h : Box w g cs t) : g < w.heap.size := (Array.getElem?_eq_some_iff.1 h).1
theorem Box.below {w w' : World} {g B : Nat} {cs : Array Value} {t : TypeId} (h : Box w g cs t) (hb : Below B w w') (hg : g < B) : Box w' g cs t := (hb.block g hg).trans h
theorem Box.alloc {w : World} {g : Nat} {cs : Array Value} {t : TypeId} (h : Box w g cs t) (o : Obj) : Box (w.alloc o) g cs t := h.below ((Below.refl _ w).alloc (Nat.le_refl _) o) h.lt
theorem Box.drewN {w : World} {g : Nat} {cs : Array Value} {t : TypeId} (h : Box w g cs t) (n : Nat) : Box (w.drewN n) g cs t := h
theorem Box.mod {S : Nat → Prop} {w w' : World} {g : Nat} {cs : Array Value} {t : TypeId} (h : Box w g cs t) (hm : Mod S w w') (hn : ¬ S g) : Box w' g cs t := hm.keep h hn

/-- A slice of the call's own, one cell an element; of its row no cell is frozen. -/
def OwnT (w : World) (base : Nat) (e : TypeId) (v : Value) (n : Nat) (xs : List Value) : Prop :=
  xs.length = n ∧ ((v = .slice none 0 0 ∧ n = 0) ∨ ∃ g cap cur fz, v = .slice (some ⟨g, 0, none⟩) n cap ∧ base ≤ g ∧ w.heap[g]? = some (.cells cur e fz) ∧ (fz.2 = 0 ∨ cur.size ≤ fz.1) ∧ n ≤ cap ∧ cap ≤ maxLen ∧ cur.size = cap ∧ cur.toList.take n = xs)

section
variable {w w1 w2 : World} {base : Nat} {e : TypeId} {v v1 v2 : Value} {n m : Nat} {xs ys : List Value}
theorem OwnT.of (h : w.ownsRow base e 1 v n xs) : OwnT w base e v n xs := by
  refine ⟨by rw [h.1, Nat.mul_one], ?_⟩
  rcases h.2 with h2 | ⟨g, cap, cur, h1, h2, h3, h4, h5, h6, h7⟩
  · exact .inl h2
  · exact .inr ⟨g, cap, cur, (0, 0), h1, h2, h3, .inl rfl, h4, h5, by rw [h6, Nat.mul_one], by rw [Nat.mul_one] at h7; exact h7⟩
theorem OwnT.form (h : OwnT w base e v n xs) : ∃ A c, v = .slice A n c := by
  rcases h.2 with ⟨rfl, rfl⟩ | ⟨g, cap, cur, fz, rfl, _⟩
  · exact ⟨none, 0, rfl⟩
  · exact ⟨_, _, rfl⟩
theorem OwnT.lt (h : OwnT w base e v n xs) : ∀ k, v.ownBlock = some k → base ≤ k ∧ k < w.heap.size := by
  rcases h.2 with ⟨rfl, rfl⟩ | ⟨g, cap, cur, fz, rfl, hb, hg, _⟩
  · intro k hk; cases hk
  · intro k hk
    injection hk with hk
    subst hk
    exact ⟨hb, (Array.getElem?_eq_some_iff.1 hg).1⟩
theorem OwnT.keep {S : Nat → Prop} (h : OwnT w base e v n xs) (hm : Mod S w w1) (hd : ∀ k, ownS v k → ¬ S k) : OwnT w1 base e v n xs := by
  obtain ⟨h1, h2⟩ := h
  refine ⟨h1, ?_⟩
  rcases h2 with h2 | ⟨g, cap, cur, fz, rfl, hg, hh, h3⟩
  · exact .inl h2
  · exact .inr ⟨g, cap, cur, fz, rfl, hg, hm.keep hh (hd g rfl), h3⟩
theorem OwnT.alloc (h : OwnT w base e v n xs) (o : Obj) : OwnT (w.alloc o) base e v n xs := h.keep ((Mod.refl noB w).alloc o) (fun _ _ h => h)
theorem OwnT.drew (h : OwnT w base e v n xs) : OwnT w.drew base e v n xs := h
theorem OwnT.drewN (h : OwnT w base e v n xs) (k : Nat) : OwnT (w.drewN k) base e v n xs := h
theorem OwnT.le {base' : Nat} (h : OwnT w base e v n xs) (hb : base' ≤ base) : OwnT w base' e v n xs := by
  obtain ⟨h1, h2⟩ := h
  refine ⟨h1, ?_⟩
  rcases h2 with h2 | ⟨g, cap, cur, fz, rfl, hg, h3⟩
  · exact .inl h2
  · exact .inr ⟨g, cap, cur, fz, rfl, Nat.le_trans hb hg, h3⟩
/-- What the call owns reads so. -/
theorem OwnT.cells {A : Option Addr} {c : Nat} (h : OwnT w base e (.slice A n c) n xs) : Cells w w.heap.size A xs := fun hp => by
  obtain ⟨h1, h2⟩ := h
  rcases h2 with ⟨_, rfl⟩ | ⟨g, cap, cur, fz, hv, hg, hh, hfz, hnc, hcm, hcs, htake⟩
  · omega
  · simp only [Value.slice.injEq] at hv
    obtain ⟨rfl, _, rfl⟩ := hv
    refine ⟨g, 0, rfl, (Array.getElem?_eq_some_iff.1 hh).1, fun j u hj => ?_⟩
    rw [Nat.zero_add, cell_of_row w g j _ _ _ hh]
    rw [← htake, List.getElem?_take] at hj
    split at hj
    · simpa using hj
    · cases hj
theorem OwnT.nil (w : World) (base : Nat) (e : TypeId) : OwnT w base e (.slice none 0 0) 0 [] := ⟨rfl, .inl ⟨rfl, rfl⟩⟩

/-- From w to w' the slice v, of the call's own, became v', which owns n elements, the cells xs: nothing else has turned. -/
structure AppT (w : World) (base : Nat) (e : TypeId) (v : Value) (n : Nat) (xs : List Value) (w' : World) (v' : Value) : Prop where
  own : OwnT w' base e v' n xs
  grow : w.grownBy w' v.ownBlock
  loc : v'.ownBlock = v.ownBlock ∨ ∃ g, v'.ownBlock = some g ∧ w.heap.size ≤ g
theorem AppT.start (h : OwnT w base e v n xs) : AppT w base e v n xs w v := ⟨h, World.grownBy.refl _ _, .inl rfl⟩
theorem AppT.trans (h : AppT w base e v n xs w1 v1) (k : AppT w1 base e v1 m ys w2 v2) : AppT w base e v m ys w2 v2 := by
  have hs := h.grow.size
  refine ⟨k.own, h.grow.andThen k.grow fun j hj => ?_, ?_⟩
  · rcases h.loc with hl | ⟨g, hl, hg⟩
    · exact .inr (by rw [← hl]; exact hj)
    · rw [hl] at hj
      injection hj with hj
      exact .inl (by omega)
  · rcases k.loc with hk | ⟨g, hk, hg⟩
    · rcases h.loc with hl | ⟨g, hl, hg⟩
      · exact .inl (hk.trans hl)
      · exact .inr ⟨g, hk.trans hl, hg⟩
    · exact .inr ⟨g, hk, by omega⟩
/-- A block was made ahead of the append. -/
theorem AppT.behind (o : Obj) (k : AppT (w.alloc o) base e v n xs w2 v2) : AppT w base e v n xs w2 v2 := by
  refine ⟨k.own, (World.grownBy_alloc w o v.ownBlock).andThen k.grow fun j hj => .inr hj, ?_⟩
  rcases k.loc with hk | ⟨g, hk, hg⟩
  · exact .inl hk
  · exact .inr ⟨g, hk, by simp at hg; omega⟩
theorem AppT.form (h : AppT w base e v n xs w1 v1) : ∃ A c, v1 = .slice A n c := h.own.form
theorem AppT.mod (h : AppT w base e v n xs w1 v1) : Mod (ownS v) w w1 := Mod.of_grown h.grow
theorem AppT.place (h : AppT w base e v n xs w1 v1) : ∀ k, ownS v1 k → ownS v k ∨ w.heap.size ≤ k := fun k hk => by
  rcases h.loc with hl | ⟨g, hl, hg⟩
  · exact .inl (by unfold ownS at hk ⊢; rw [← hl]; exact hk)
  · unfold ownS at hk
    rw [hl] at hk
    injection hk with hk
    exact .inr (by omega)
theorem AppT.below {B : Nat} {W : World} (h : AppT w base e v n xs w1 v1) (hb : Below B W w) (hB : B ≤ w.heap.size) (hv : ∀ k, v.ownBlock = some k → B ≤ k) : Below B W w1 := hb.grown h.grow hB hv
end

section
variable {P : Program} (w : World)
/-- Cells are stored into a row of which none is frozen. -/
theorem run_storeCells_tail (P : Program) (g o : Nat) (t : TypeId) (fz : Nat × Nat) : ∀ (vs : List Value) (i : Nat) (cur : Array Value) (w : World), w.heap[g]? = some (.cells cur t fz) → (fz.2 = 0 ∨ cur.size ≤ fz.1) → o + i + vs.length ≤ cur.size → (∀ v ∈ vs, v.oneCell' = true) →
    (storeCells ⟨g, o, none⟩ vs i).run P w = .ok () (w.setRow g (cur.toList.take (o + i) ++ vs ++ cur.toList.drop (o + i + vs.length)).toArray)
  | [], i, cur, w, hg, _, _, _ => by
    simp only [storeCells, List.append_nil, List.length_nil, Nat.add_zero, List.take_append_drop, Array.toArray_toList]
    rw [setRow_self w g cur t fz hg]
    rfl
  | v :: rest, i, cur, w, hg, hfz, hl, h1 => by
    have hi : o + i < cur.size := by simp at hl; omega
    have hadd : (⟨g, o, none⟩ : Addr).add i = ⟨g, o + i, none⟩ := by unfold Addr.add; split <;> simp_all
    have hcell : w.cell? ⟨g, o + i, none⟩ = some cur[o + i] := by simp [World.cell?, hg, hi]
    have hfro : w.frozen? ⟨g, o + i, none⟩ = false := by
      obtain ⟨lo, hi'⟩ := fz
      simp only [World.frozen?, hg, Bool.and_eq_false_iff, decide_eq_false_iff_not]
      simp only at hfz
      rcases hfz with h | h
      · right; omega
      · left; omega
    have hst : (store ((⟨g, o, none⟩ : Addr).add i) v).run P w = .ok () (w.setRow g (cur.setIfInBounds (o + i) v)) := by
      rw [hadd, run_store P w _ v _ (h1 v (by simp)), hcell]
      simp [hfro, setCell_eq_setRow w g (o + i) cur t fz v hg]
    have ih := run_storeCells_tail P g o t fz rest (i + 1) (cur.setIfInBounds (o + i) v) (w.setRow g (cur.setIfInBounds (o + i) v)) (setRow_heap w g cur _ t _ hg) (by simpa using hfz) (by simp at hl ⊢; omega) (fun x hx => h1 x (by simp [hx]))
    simp only [storeCells, Sem.run_bind, hst, Result.andThen_ok, ih, setRow_setRow]
    congr 3
    have e := list_seg_step cur.toList (o + i) v rest (by simp at hl ⊢; omega)
    simpa [Array.toList_setIfInBounds, Nat.add_assoc] using e

/-- What a room arm leaves. -/
theorem roomT {base : Nat} {e : TypeId} {n m g cap : Nat} {cur : Array Value} {fz : Nat × Nat} {xs news : List Value} (hxl : xs.length = n) (hl : news.length = m) (hbg : base ≤ g) (hg : w.heap[g]? = some (.cells cur e fz)) (hfz : fz.2 = 0 ∨ cur.size ≤ fz.1)
    (hcm : cap ≤ maxLen) (hcs : cur.size = cap) (htake : cur.toList.take n = xs) (hroom : n + m ≤ cap) :
    AppT w base e (.slice (some ⟨g, 0, none⟩) n cap) (n + m) (xs ++ news) (w.setRow g (cur.toList.take n ++ news ++ cur.toList.drop (n + m)).toArray) (.slice (some ⟨g, 0, none⟩) (n + m) cap) := by
  have hsz : (cur.toList.take n ++ news ++ cur.toList.drop (n + m)).toArray.size = cur.size := by
    simp only [List.size_toArray, List.length_append, List.length_take, List.length_drop, Array.length_toList]
    omega
  refine ⟨⟨by rw [List.length_append, hxl, hl], .inr ⟨g, cap, _, fz, rfl, hbg, setRow_heap w g cur _ e _ hg, ?_, hroom, hcm, by rw [hsz, hcs], ?_⟩⟩, ⟨rfl, rfl, rfl, by simp, fun k _ hk => setRow_other w g k _ (fun e => hk (by simp [Value.ownBlock, e]))⟩, .inl rfl⟩
  · rw [hsz]; exact hfz
  · rw [htake, ← hxl, ← hl, ← List.length_append]
    exact List.take_left
/-- What a growing arm leaves. -/
theorem grownT {base : Nat} {e : TypeId} {n m old : Nat} {v : Value} {xs news zs : List Value} {C : Array Value} (hxl : xs.length = n) (hl : news.length = m) (h63 : n + m ≤ maxLen) (hbase : base ≤ w.heap.size) (hC : C.toList = xs ++ news ++ zs) (hz : zs.length = grownCap w (n + m) old e - (n + m)) :
    AppT w base e v (n + m) (xs ++ news) (w.drew.alloc (.cells C e)) (.slice (some ⟨w.heap.size, 0, none⟩) (n + m) (grownCap w (n + m) old e)) := by
  have hge := grownCap_ge w (n + m) old e
  have hlen : (xs ++ news).length = n + m := by rw [List.length_append, hxl, hl]
  refine ⟨⟨hlen, .inr ⟨w.heap.size, _, C, (0, 0), rfl, hbase, heap_alloc_new w.drew _, .inl rfl, hge, grownCap_le_maxLen w (n + m) old e h63, ?_, ?_⟩⟩, ⟨rfl, rfl, rfl, by simp, fun k hk _ => Below.heap_alloc w.drew _ k hk⟩, .inr ⟨_, rfl, Nat.le_refl _⟩⟩
  · rw [← Array.length_toList, hC, List.length_append, hlen, hz]
    omega
  · rw [hC, ← hlen]
    exact List.take_left
theorem zeroCells_len1 (z : Value) (hz : z.cells.size = 1) (k : Nat) : (Builtin.zeroCells z.cells k).toList.length = k := by
  rw [Array.length_toList, size_zeroCells, hz, Nat.mul_one]

/-- append(s, x...) of a slice. -/
theorem run_appT {t e : TypeId} {z : Value} {bytes : Nat} (E : Elem P t e z 1 bytes) (base : Nat) (ty : TypeId)
    (v : Value) (n : Nat) (xs : List Value) (hown : OwnT w base e v n xs) (B : Nat) (A : Option Addr) (m c : Nat) (news : List Value) (hl : news.length = m) (hr : Cells w B A news)
    (h1 : ∀ u ∈ news, u.oneCell' = true) (h63 : n + m ≤ maxLen) (hbytes : (n + m) * bytes ≤ 140737488355328) (hbase : base ≤ w.heap.size) :
    ∃ A' c' w', (Builtin.append_ #[t, t] ty #[v, .slice A m c]).run P w = .ok (.slice A' (n + m) c') w' ∧ AppT w base e v (n + m) (xs ++ news) w' (.slice A' (n + m) c') := by
  obtain ⟨ht, ⟨i, hi, hz, hsize, hby⟩, hzs, hpos⟩ := E
  subst hby
  by_cases hm : m = 0
  · subst hm
    have hn : news = [] := List.eq_nil_of_length_eq_zero hl
    subst hn
    obtain ⟨A', c', rfl⟩ := hown.form
    rw [List.append_nil, Nat.add_zero]
    refine ⟨A', c', w, ?_, AppT.start hown⟩
    rcases hown.2 with ⟨he, rfl⟩ | ⟨g, cap, cur, fz, he, _, _, _, hnc, _⟩
    · injection he with h1 h2 h3
      subst h1 h3
      cases A <;> simp [Builtin.append_, run_underlying ht, sizeOf, typeInfo, hi, Builtin.lenOf, Builtin.firstCells, loadCells, loadCellsFrom]
    · injection he with h1 h2 h3
      subst h1 h3
      cases A <;> simp [Builtin.append_, run_underlying ht, sizeOf, typeInfo, hi, Builtin.lenOf, Builtin.firstCells, loadCells, loadCellsFrom, hnc, storeCells]
  · obtain ⟨b, o, rfl, _, hcell⟩ := hr (by omega)
    have hadd : ∀ j, (⟨b, o, none⟩ : Addr).add j = ⟨b, o + j, none⟩ := fun j => by unfold Addr.add; split <;> simp_all
    have hnews : ∀ j u, news[j]? = some u → w.cell? ((⟨b, o, none⟩ : Addr).add j) = some u := fun j u hj => by rw [hadd]; exact hcell j u hj
    have hl1 : news.length = m * i.size := by rw [hsize, Nat.mul_one]; exact hl
    have hsmall : n + m ≤ 9223372036854775807 := by simp only [maxLen] at h63; omega
    rcases hown.2 with ⟨rfl, rfl⟩ | ⟨g, cap, cur, fz, rfl, hbg, hg, hfz, hnc, hcm, hcs, htake⟩
    · have hx : xs = [] := List.eq_nil_of_length_eq_zero hown.1
      subst hx
      have hr := run_append_nil (P := P) w t ty e i z ht hi hz ⟨b, o, none⟩ m c news hl1 hnews (by omega) (by omega) (by simp only [Nat.zero_add] at hbytes; omega)
      rw [Nat.zero_add]
      refine ⟨_, _, _, hr, ?_⟩
      have := grownT w (v := .slice none 0 0) (n := 0) (old := 0) (xs := []) (zs := (Builtin.zeroCells z.cells (grownCap w m 0 e - m)).toList) (C := news.toArray ++ Builtin.zeroCells z.cells (grownCap w m 0 e - m)) rfl hl h63 hbase (by simp) (by rw [zeroCells_len1 z hzs, Nat.zero_add])
      simpa using this
    · by_cases hroom : n + m ≤ cap
      · have hf := run_firstCells_some (P := P) w i.size m ⟨b, o, none⟩ m c news hl1 hnews
        have hst := run_storeCells_tail P g n e fz news 0 cur w hg hfz (by omega) h1
        simp only [Nat.add_zero, hl] at hst
        refine ⟨_, _, _, ?_, roomT w hown.1 hl hbg hg hfz hcm hcs htake hroom⟩
        rw [hsize] at hf
        simp [Builtin.append_, run_underlying ht, sizeOf, typeInfo, hi, hsize, Builtin.lenOf, hroom, hf, Addr.add_lit, hst]
      · have hr := run_append_grow (P := P) w t ty e i z ht hi hz ⟨g, 0, none⟩ n cap xs (by rw [hsize, Nat.mul_one]; exact hown.1) (fun j u hj => by
            obtain ⟨b', o', e1, _, hc⟩ := hown.cells (by have := (List.getElem?_eq_some_iff.1 hj).1; omega)
            simp only [Option.some.injEq, Addr.mk.injEq] at e1
            obtain ⟨rfl, rfl, _⟩ := e1
            have hadd0 : (⟨g, 0, none⟩ : Addr).add j = ⟨g, 0 + j, none⟩ := by unfold Addr.add; split <;> simp_all
            rw [hadd0]
            exact hc j u hj) ⟨b, o, none⟩ m c news hl1 hnews (by omega) (by omega) (growslice_fits (by omega) hbytes)
        refine ⟨_, _, _, hr, ?_⟩
        exact grownT w (zs := (Builtin.zeroCells z.cells (grownCap w (n + m) cap e - (n + m))).toList) hown.1 hl h63 hbase (by simp) (zeroCells_len1 z hzs _)

/-- append(s, x...): the rows of the source in memory. -/
theorem wpList_appT {ops : Array Oper} {rest : List Oper} {o : Oper} {a : Act} {Q : Exit → Act → World → Prop} {t e : TypeId} {z : Value} {bytes : Nat} (E : Elem P t e z 1 bytes) (hgd : o.guard = none) (s x : Operand)
    (ho : o.op = .call { callee := .builtin .append, args := #[s, x], argTypes := #[t, t] }) (base : Nat)
    (v : Value) (n : Nat) (xs : List Value) (hs : a.eval s = v) (hown : OwnT w base e v n xs)
    (B : Nat) (A : Option Addr) (m c : Nat) (news : List Value) (hx : a.eval x = .slice A m c) (hl : news.length = m) (hr : Cells w B A news) (h1 : ∀ u ∈ news, u.oneCell' = true)
    (h63 : n + m ≤ maxLen) (hbytes : (n + m) * bytes ≤ 140737488355328) (hbase : base ≤ w.heap.size)
    (h : ∀ A' c' w', AppT w base e v (n + m) (xs ++ news) w' (.slice A' (n + m) c') → wpList P ops Q rest (a.put o.dst (.slice A' (n + m) c')) w') : wpList P ops Q (o :: rest) a w := by
  refine wpList_plain hgd fun K hK => ?_
  obtain ⟨A', c', w', hr, h2⟩ := run_appT (P := P) w E base o.type v n xs hown B A m c news hl hr h1 h63 hbytes hbase
  unfold Oper.wp execOp
  simp only [ho, resolve, invoke, builtin, Sem.run_bind, Sem.run_pure, Result.andThen_ok, List.map_toArray, List.map_cons, List.map_nil, hs, hx, hr]
  exact hK _ _ (h A' c' w' h2)
/-- append(s, u): one element; the block that holds it was just made. -/
theorem wpList_appT1 {ops : Array Oper} {rest : List Oper} {o : Oper} {a : Act} {Q : Exit → Act → World → Prop} {t e : TypeId} {z : Value} {bytes : Nat} (E : Elem P t e z 1 bytes) (hgd : o.guard = none) (s x : Operand)
    (ho : o.op = .call { callee := .builtin .append, args := #[s, x], argTypes := #[t, t] }) (base : Nat)
    (v : Value) (n : Nat) (xs : List Value) (hs : a.eval s = v) (hown : OwnT w base e v n xs)
    (C : Array Value) (hx : a.eval x = .slice (some ⟨w.heap.size, 0, none⟩) 1 1) (hC : C.size = 1) (h1 : ∀ u ∈ C.toList, u.oneCell' = true)
    (h63 : n + 1 ≤ maxLen) (hbytes : (n + 1) * bytes ≤ 140737488355328) (hbase : base ≤ w.heap.size)
    (h : ∀ A' c' w', AppT w base e v (n + 1) (xs ++ C.toList) w' (.slice A' (n + 1) c') → wpList P ops Q rest (a.put o.dst (.slice A' (n + 1) c')) w') : wpList P ops Q (o :: rest) a (w.alloc (.cells C e)) := by
  refine wpList_appT (w.alloc (.cells C e)) E hgd s x ho base v n xs hs (hown.alloc _) (w.heap.size + 1) (some ⟨w.heap.size, 0, none⟩) 1 1 C.toList hx (by rw [Array.length_toList]; exact hC) ?_ h1 h63 hbytes (by simp; omega)
    (fun A' c' w' hA => h A' c' w' hA.behind)
  refine fun _ => ⟨_, 0, rfl, Nat.lt_succ_self _, fun j u hu => ?_⟩
  rw [cell_of_row _ _ _ _ _ _ (heap_alloc_new w _)]
  simpa using hu
end
end Go.Proofs.YtfnkbpcimbldbaaDoor
