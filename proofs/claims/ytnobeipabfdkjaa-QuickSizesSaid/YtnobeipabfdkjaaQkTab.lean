/- Layer 34: a table in memory. -/
import Derived.Test.YtnobeipabfdkjaaQkSpr
import Derived.Maps.OwnSet
import Derived.Maps.Views
import Derived.Maps.RangeWalk
import Derived.MakeChecks
namespace Go.Proofs.Ytnobeipabfdkjaa
open Go.RowKit Go.Maps

theorem intKeyed : Keyed Try.prog 3 := int_keyed Try.underlying3
def kx (x : Nat) : Lit := .int .i64 (x : Int)
theorem kx_key {x : Nat} (h : x < 9223372036854775808) : keyOf Try.prog 3 (.int .i64 (x : Int)) = some (kx x) := by
  have hw : (Lit.int .i64 (x : Int)).wf = true := by
    simp [Lit.wf, IntKind.min, IntKind.max, IntKind.signed, IntKind.bits]
    omega
  simp [keyOf, Try.underlying3, mapKey, hw, kx]
theorem kx_inj {x y : Nat} (h : kx x = kx y) : x = y := by
  unfold kx at h
  injection h with _ h
  omega
/-- How a slice of rows, in a block of its own, reads. -/
def slR : Value → Option (DataW Unit × List MemPlace)
  | .slice none 0 0 => some (.nil, [])
  | .slice (some ⟨b, 0, none⟩) n c => if n = c then some (.agg [.lit (.int .i64 (b : Int)), .lit (.int .i64 (n : Int))], []) else none
  | _ => none
def slD (b n : Nat) : DataW Unit := .agg [.lit (.int .i64 (b : Int)), .lit (.int .i64 (n : Int))]
theorem slR_mk (b n : Nat) : slR (.slice (some ⟨b, 0, none⟩) n n) = some (slD b n, []) := by simp [slR, slD]
theorem slR_inv {v : Value} {b n : Nat} {ps : List MemPlace} (h : slR v = some (slD b n, ps)) : v = .slice (some ⟨b, 0, none⟩) n n := by
  unfold slR at h
  split at h
  · simp [slD] at h
  · split at h
    · rename_i b' n' c' hc
      subst hc
      simp [slD] at h
      obtain ⟨⟨h1, h2⟩, _⟩ := h
      obtain rfl : b' = b := by omega
      obtain rfl : n' = n := by omega
      rfl
    · simp at h
  · simp at h
def slLen : DataW Unit → Nat
  | .agg [_, .lit (.int .i64 n)] => n.toNat
  | _ => 0
theorem slLen_mk (b n : Nat) : slLen (slD b n) = n := by simp [slLen, slD]
/-- How many rows are behind, together. -/
def sumD : DataW Unit → Nat
  | .map es => (es.map fun p => slLen p.2).sum
  | _ => 0
theorem sum_insert (x : Lit × DataW Unit) : ∀ es : List (Lit × DataW Unit), ((DataW.insert x es).map fun p => slLen p.2).sum = slLen x.2 + (es.map fun p => slLen p.2).sum
  | [] => by simp [DataW.insert]
  | y :: r => by
    unfold DataW.insert
    split
    · simp
    · rw [List.map_cons, List.sum_cons, sum_insert x r, List.map_cons, List.sum_cons]
      omega
theorem sumD_put {D : DataW Unit} (hD : IsMap D) {k : Lit} (hk : has D k = false) (d : DataW Unit) : sumD (D.put k d) = slLen d + sumD D := by
  obtain ⟨es, rfl⟩ := hD
  have hf : es.filter (fun p => !p.1.sameKey k) = es := by
    apply List.filter_eq_self.2
    intro p hp
    rw [has_eq] at hk
    have := (List.any_eq_false.1 hk) p hp
    simpa using this
  show ((DataW.insert (k, d) (es.filter fun p => !p.1.sameKey k)).map fun p => slLen p.2).sum = _
  rw [hf]
  exact sum_insert (k, d) es
/-- A table in memory: at tb, its rows at g, its map at m; D is how the map reads. -/
structure LT (w : World) (tb g m W : Nat) (q : QS) (blk : Nat → Nat) (D : DataW Unit) (cnt base : Nat) : Prop where
  tab : w.heap[tb]? = some (.cells #[.int .i64 (W : Int), .slice (some ⟨g, 0, none⟩) (2 ^ W) (2 ^ W), .map (some m)] 60 (0, 0))
  len : q.rows.length = 2 ^ W
  rows : RB w g q.rows
  map : w.ownsMap Try.prog 3 slR m cnt D
  bare : ∀ x, q.more x = none → has D (kx x) = false
  more : ∀ x L, q.more x = some L → (∀ z, D.atKey (kx x) z = slD (blk x) L.length) ∧ RB w (blk x) L ∧ base ≤ blk x ∧ blk x ≠ g ∧ blk x ≠ tb ∧ blk x ≠ m
  inj : ∀ x y L L', q.more x = some L → q.more y = some L' → blk x = blk y → x = y
  ne : g ≠ tb ∧ g ≠ m ∧ tb ≠ m ∧ base ≤ g ∧ base ≤ tb ∧ base ≤ m
/-- What the table's blocks are. -/
def tbS (base : Nat) : Nat → Prop := fun k => base ≤ k
theorem LT.drewN {w : World} {tb g m W : Nat} {q : QS} {blk : Nat → Nat} {D : DataW Unit} {cnt base : Nat} (h : LT w tb g m W q blk D cnt base) (n : Nat) : LT (w.drewN n) tb g m W q blk D cnt base :=
  ⟨h.tab, h.len, h.rows, h.map, h.bare, h.more, h.inj, h.ne⟩
theorem LT.alloc {w : World} {tb g m W : Nat} {q : QS} {blk : Nat → Nat} {D : DataW Unit} {cnt base : Nat} (h : LT w tb g m W q blk D cnt base) (o : Obj) : LT (w.alloc o) tb g m W q blk D cnt base :=
  ⟨(Below.heap_alloc w o _ (Array.getElem?_eq_some_iff.1 h.tab).1).trans h.tab, h.len, (Below.heap_alloc w o _ (rb_lt h.rows)).trans h.rows, h.map.alloc o, h.bare,
    fun x L hx => let ⟨h1, h2, h3⟩ := h.more x L hx; ⟨h1, (Below.heap_alloc w o _ (rb_lt h2)).trans h2, h3⟩, h.inj, h.ne⟩
theorem LT.below {w w' : World} {tb g m W : Nat} {q : QS} {blk : Nat → Nat} {D : DataW Unit} {cnt base : Nat} (h : LT w tb g m W q blk D cnt base) (hb : Below w.heap.size w w') : LT w' tb g m W q blk D cnt base := by
  refine ⟨(hb.block _ (Array.getElem?_eq_some_iff.1 h.tab).1).trans h.tab, h.len, (hb.block _ (rb_lt h.rows)).trans h.rows, ?_, h.bare,
    fun x L hx => let ⟨h1, h2, h3⟩ := h.more x L hx; ⟨h1, (hb.block _ (rb_lt h2)).trans h2, h3⟩, h.inj, h.ne⟩
  obtain ⟨es, clock, h1, h2⟩ := h.map
  exact ⟨es, clock, (hb.block _ (Array.getElem?_eq_some_iff.1 h1).1).trans h1, h2⟩
/-- The rows of the table itself have changed. -/
theorem LT.rows_ {w w' : World} {tb g m W : Nat} {q : QS} {blk : Nat → Nat} {D : DataW Unit} {cnt base : Nat} (h : LT w tb g m W q blk D cnt base) (hm : Mod (oneB g) w w') {rows : List R3} (hl : rows.length = q.rows.length) (hr : RB w' g rows) : LT w' tb g m W ⟨rows, q.more⟩ blk D cnt base := by
  refine ⟨hm.keep h.tab (fun e => h.ne.1 e.symm), hl.trans h.len, hr, ?_, h.bare, fun x L hx => ?_, h.inj, h.ne⟩
  · obtain ⟨es, clock, h1, h2⟩ := h.map
    exact ⟨es, clock, hm.keep h1 (fun e => h.ne.2.1 e.symm), h2⟩
  · obtain ⟨h1, h2, h3, h4, h5⟩ := h.more x L hx
    exact ⟨h1, hm.keep h2 h4, h3, h4, h5⟩
/-- The rows behind one have changed. -/
theorem LT.more_ {w w' : World} {tb g m W : Nat} {q : QS} {blk : Nat → Nat} {D : DataW Unit} {cnt base : Nat} (h : LT w tb g m W q blk D cnt base) {x : Nat} {L L' : List R3} (hx : q.more x = some L) (hm : Mod (oneB (blk x)) w w') (hl : L'.length = L.length) (hr : RB w' (blk x) L') :
    LT w' tb g m W ⟨q.rows, fun y => if y = x then some L' else q.more y⟩ blk D cnt base := by
  obtain ⟨m1, m2, m3, m4, m5, m6⟩ := h.more x L hx
  refine ⟨hm.keep h.tab (fun e => m5 e.symm), h.len, hm.keep h.rows (fun e => m4 e.symm), ?_, fun y hy => ?_, fun y M hy => ?_, fun y z M M' hy hz e => ?_, h.ne⟩
  · obtain ⟨es, clock, h1, h2⟩ := h.map
    exact ⟨es, clock, hm.keep h1 (fun e => m6 e.symm), h2⟩
  · dsimp only at hy
    split at hy
    · simp at hy
    · exact h.bare y hy
  · dsimp only at hy
    split at hy
    · rename_i e
      subst e
      injection hy with hy
      subst hy
      exact ⟨fun z => by rw [m1 z, hl], hr, m3, m4, m5, m6⟩
    · rename_i e
      obtain ⟨h1, h2, h3⟩ := h.more y M hy
      exact ⟨h1, hm.keep h2 (fun e2 => e (h.inj y x M L hy hx e2)), h3⟩
  · have key : ∀ y M, (if y = x then some L' else q.more y) = some M → ∃ M0, q.more y = some M0 := fun y M hy => by
      split at hy
      · rename_i e; exact ⟨L, by rw [e]; exact hx⟩
      · exact ⟨M, hy⟩
    obtain ⟨M1, h1⟩ := key y M hy
    obtain ⟨M2, h2⟩ := key z M' hz
    exact h.inj y z M1 M2 h1 h2 e
/-- Rows are laid behind one that had none. -/
theorem LT.put_ {w w' w'' : World} {tb g m W : Nat} {q : QS} {blk : Nat → Nat} {D : DataW Unit} {cnt base b : Nat} (h : LT w tb g m W q blk D cnt base) {x : Nat} {L : List R3} (hx : q.more x = none) (hb : Below w.heap.size w w') (hbw : w.heap.size ≤ b) (hbase : base ≤ w.heap.size) (hL : RB w' b L)
    (hown : w''.ownsMap Try.prog 3 slR m (cnt + 1) (D.put (kx x) (slD b L.length))) (hg : w'.grownBy w'' (some m)) :
    LT w'' tb g m W ⟨q.rows, fun y => if y = x then some L else q.more y⟩ (fun y => if y = x then b else blk y) (D.put (kx x) (slD b L.length)) (cnt + 1) base := by
  have hw := h.below hb
  have lt1 := (Array.getElem?_eq_some_iff.1 h.tab).1
  have lt2 := rb_lt h.rows
  have lt3 : m < w.heap.size := by obtain ⟨es, clock, h1, _⟩ := h.map; exact (Array.getElem?_eq_some_iff.1 h1).1
  have keep : ∀ {k : Nat} {o : Obj}, w'.heap[k]? = some o → k ≠ m → w''.heap[k]? = some o := fun hk hne => (hg.block _ (Array.getElem?_eq_some_iff.1 hk).1 (fun e => hne (by first | exact (Option.some.inj e).symm | exact Option.some.inj e))).trans hk
  have hD := hw.map.isMap
  have hkl : WideAt.IsKeyLit (kx x) := trivial
  refine ⟨keep hw.tab h.ne.2.2.1, h.len, keep hw.rows h.ne.2.1, hown, fun y hy => ?_, fun y M hy => ?_, fun y z M M' hy hz e => ?_, h.ne⟩
  · dsimp only at hy
    split at hy
    · simp at hy
    · rename_i e
      rw [has_put_other (fun e2 => e (kx_inj e2))]
      exact h.bare y hy
  · dsimp only at hy
    split at hy
    · rename_i e
      subst e
      injection hy with hy
      subst hy
      rw [if_pos rfl]
      exact ⟨fun z => atKey_put_same hD hkl _ z, keep hL (by omega), by omega, by omega, by omega, by omega⟩
    · rename_i e
      rw [if_neg e]
      obtain ⟨h1, h2, h3, h4, h5, h6⟩ := hw.more y M hy
      exact ⟨fun z => by rw [atKey_put_other (fun e2 => e (kx_inj e2))]; exact h1 z, keep h2 h6, h3, h4, h5, h6⟩
  · have old : ∀ y M, y ≠ x → (if y = x then some L else q.more y) = some M → blk y < w.heap.size := fun y M e hy => by
      rw [if_neg e] at hy
      obtain ⟨_, h2, _⟩ := h.more y M hy
      exact rb_lt h2
    by_cases hyx : y = x
    · by_cases hzx : z = x
      · rw [hyx, hzx]
      · rw [if_pos hyx, if_neg hzx] at e
        have := old z M' hzx hz
        omega
    · by_cases hzx : z = x
      · rw [if_neg hyx, if_pos hzx] at e
        have := old y M hyx hy
        omega
      · rw [if_neg hyx, if_neg hzx] at e
        dsimp only at hy hz
        rw [if_neg hyx] at hy
        rw [if_neg hzx] at hz
        exact h.inj y z M M' hy hz e
end Go.Proofs.Ytnobeipabfdkjaa
