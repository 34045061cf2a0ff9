/- Layer 24: slices.Values of members, as it tells them. -/
import Derived.Test.YtjoifgeljjgflaaDoorMgQ14432
import Derived.Test.YtjoifgeljjgflaaDoorMgQ144SKpB
import Derived.Test.YtjoifgeljjgflaaDoorMgQ14416
import Derived.WalkMore
namespace Go.Proofs.YtjoifgeljjgflaaDoor
open Go.RowKit Go.Shelf
attribute [local go_sem] Oper.semAt_some

/-- A row that may lie anywhere: its block, whole. -/
def RowObj (w : World) (A : Option Addr) (xs : List Value) (bl : Nat) : Prop := ∃ o cur t fz, A = some ⟨bl, o, none⟩ ∧ w.heap[bl]? = some (.cells cur t fz) ∧ ∀ j u, xs[j]? = some u → cur[o + j]? = some u
theorem rowObj_of {w : World} {B : Nat} {A : Option Addr} {xs : List Value} (h : Cells w B A xs) (hp : 0 < xs.length) : ∃ bl, RowObj w A xs bl ∧ bl < B := by
  obtain ⟨b, o, e, hb, hc⟩ := h hp
  have h0 := hc 0 _ (List.getElem?_eq_getElem hp)
  unfold World.cell? at h0
  cases hh : w.heap[b]? with
  | none => simp [hh] at h0
  | some ob =>
    cases ob with
    | cells cur t fz =>
      refine ⟨b, ⟨o, cur, t, fz, e, hh, fun j u hj => ?_⟩, hb⟩
      have := hc j u hj
      unfold World.cell? at this
      simpa [hh] using this
    | _ => simp [hh] at h0
theorem RowObj.cells {w : World} {A : Option Addr} {xs : List Value} {bl : Nat} (h : RowObj w A xs bl) : Cells w (bl + 1) A xs := fun _ => by
  obtain ⟨o, cur, t, fz, rfl, hh, hc⟩ := h
  refine ⟨bl, o, rfl, Nat.lt_succ_self _, fun j u hj => ?_⟩
  unfold World.cell?
  simp [hh, hc j u hj]
theorem RowObj.lt {w : World} {A : Option Addr} {xs : List Value} {bl : Nat} (h : RowObj w A xs bl) : bl < w.heap.size := by
  obtain ⟨o, cur, t, fz, rfl, hh, hc⟩ := h
  exact (Array.getElem?_eq_some_iff.1 hh).1
theorem RowObj.to {w w' : World} {A : Option Addr} {xs : List Value} {bl : Nat} (h : RowObj w A xs bl) (hk : ∀ o, w.heap[bl]? = some o → o.isCells = true → w'.heap[bl]? = some o) : RowObj w' A xs bl := by
  obtain ⟨o, cur, t, fz, e, hh, hc⟩ := h
  exact ⟨o, cur, t, fz, e, hk _ hh rfl, hc⟩

theorem takeA_snoc {α : Type} {l : List α} {k : Nat} {x : α} (h : l[k]? = some x) : l.take (k + 1) = l.take k ++ [x] := by rw [List.take_add_one, h]; rfl
set_option maxRecDepth 100000 in
set_option maxHeartbeats 4000000 in
theorem vals_seq {α : Type} (v : α → LM) (n B b bl : Nat) (A : Option Addr) (l c : Nat) (ms : List α) (w0 : World) (hl : ms.length = l) (hm : l ≤ 1000000) (hn : n ≤ w0.heap.size) (hB : B < w0.heap.size) (hbB : b ≠ B) (hlB : bl ≠ B)
    (hb : w0.heap[b]? = some (.cells #[.slice A l c] 22)) (hr : 0 < l → RowObj w0 A (memCells (ms.map v)) bl) (hown : ∀ k, ownOf B w0 = some k → k ≠ b ∧ k ≠ bl) (hbl : 0 < l → bl < w0.heap.size) :
    SeqStopsK Fence.wide 5 Tryd.prog 47 #[.pointer (some ⟨b, 0, none⟩)] (fun m : α => #[aggM (v m)]) (KpB n B) (fun xs => xs = ms) (fun pre => pre <+: ms) 1000001 w0 := by
  intro gy J Jx W hbW hJ hJx hY h0
  have HL := Lib.hid hl
  have hb1 : W.heap[b]? = some (.cells #[.slice A l c] 22) := (hbW.block b (Array.getElem?_eq_some_iff.1 hb).1).trans hb
  have HR1 : Hid (0 < l → RowObj W A (memCells (ms.map v)) bl) := fun hp => (hr hp).to (fun o ho _ => (hbW.block bl (hbl hp)).trans ho)
  have HO1 : Hid (∀ k, ownOf B W = some k → k ≠ b ∧ k ≠ bl) := fun k hk => hown k (by rw [← ownOf_block (hbW.block B hB)]; exact hk)
  have hBW : B < W.heap.size := Nat.lt_of_lt_of_le hB hbW.size
  have hnW : n ≤ W.heap.size := Nat.le_trans hn hbW.size
  have HH1 := Lib.hid hb1
  have HY := Lib.hid hY
  have c0 : W.cell? ⟨b, 0, none⟩ = some (.slice A l c) := cell_of_row W b 0 _ _ _ hb1
  have hbs : b < W.heap.size := (Array.getElem?_eq_some_iff.1 hb1).1
  clear hb hr hown hl hY hbW hB hn hbl hb1
  refine callsIn_of_wp Tryd.func47 rfl trivial ?_ rfl
  simp only [Tryd.ntmps47, List.size_toArray, List.length_cons, List.length_nil, Nat.reduceAdd, Nat.reduceSub, Array.replicate_succ, Array.replicate_zero, List.push_toArray, List.append_toArray, List.nil_append, List.cons_append]
  gi_wp2
  gi_loopw [7] (fun i wr => ∃ (k : Nat), i = .int .i64 (k : Int) ∧ k ≤ l ∧ (0 < l → RowObj wr A (memCells (ms.map v)) bl) ∧ (∀ q, ownOf B wr = some q → q ≠ b ∧ q ≠ bl) ∧ wr.heap[b]? = some (.cells #[.slice A l c] 22) ∧ W.heap.size ≤ wr.heap.size ∧ J (ms.take k) wr) (fun i _ => l + 1 - (intOf i).toNat)
  case atStart => exact ⟨0, rfl, Nat.zero_le _, HR1.out, HO1.out, HH1.out, Nat.le_refl _, h0⟩
  case round =>
    obtain ⟨k, rfl, hkl, hr, hown, hbx, hsz, hJs⟩ := hrel
    have HR := Lib.hid hr
    have HO := Lib.hid hown
    have HX := Lib.hid hbx
    clear hr hown hbx c0
    by_cases hk : k < l
    · obtain ⟨x, hx⟩ : ∃ x, ms[k]? = some x := ⟨_, List.getElem?_eq_getElem (by have := HL.out; omega)⟩
      obtain ⟨b', o', rfl, hb', hc'⟩ := (HR.out (by omega)).cells (by rw [memCells_len, List.length_map]; have := HL.out; omega)
      obtain ⟨c0, c1, c2, c3, c4, c5, c6⟩ := mem_at hb' hc' (Below.refl _ _) (show (ms.map v)[k]? = some (v x) by rw [List.getElem?_map, hx]; rfl)
      have HXX := Lib.hid hx
      have hki : (k : Int) < (l : Int) := by omega
      have hw1 : IntKind.i64.wrap ((k : Int) + 1) = (k : Int) + 1 := IntWalk.i64_in _ (by omega)
      obtain ⟨W6, hW6⟩ : ∃ W6, wr.alloc (.cells #[.string (v x).nm, .int .i64 (v x).at_, .int .i64 (v x).fr, .int .i64 (v x).ar, .int .i64 (v x).sz, .int .u32 (v x).su, .int .i64 (v x).me] 32) = W6 := ⟨_, rfl⟩
      have HB6 : Hid (Below wr.heap.size wr W6) := by show Below _ _ _; rw [← hW6]; exact (Below.refl _ wr).alloc (Nat.le_refl _) _
      have HX6 : Hid (Box W6 wr.heap.size #[.string (v x).nm, .int .i64 (v x).at_, .int .i64 (v x).fr, .int .i64 (v x).ar, .int .i64 (v x).sz, .int .u32 (v x).su, .int .i64 (v x).me] 32) := by show Box _ _ _ _; rw [← hW6]; exact heap_alloc_new wr _
      obtain ⟨q0, q1, q2, q3, q4, q5, q6, _⟩ := box7 HX6.out
      have HZ6 : Hid (W6.heap.size = wr.heap.size + 1) := by show _ = _; rw [← hW6]; simp
      have hJ6 : J (ms.take k) W6 := abidesBelow hJ hJs HB6.out
      have HPX : Hid (ms.take k ++ [x] <+: ms) := by show _ <+: _; rw [← takeA_snoc hx]; exact List.take_prefix _ _
      have HTS := Lib.hid (takeA_snoc hx)
      have hlen : (ms.take k).length < 1000001 := by rw [List.length_take]; omega
      obtain ⟨fn, tmps, assign, body, hy, hR⟩ := HY.out (ms.take k) x W6 hJ6 hlen
      have HRR := Lib.hid hR
      have hBr : B < wr.heap.size := by omega
      have HOB : Hid (ownOf B W6 = ownOf B wr) := ownOf_block (HB6.out.block B hBr)
      clear hR hJ6 hc' hx
      gi_wp2
      clear hW6
      refine HRR.out.mono ?_
      rintro ee W3 (⟨rfl, hJ3, hk3⟩ | ⟨rfl, hJx3⟩)
      · have hs3 := hk3.size
        have hz6 := HZ6.out
        have HR3 : Hid (0 < l → RowObj W3 (some ⟨b', o', none⟩) (memCells (ms.map v)) bl) := fun hp => by
          have h1 : RowObj W6 (some ⟨b', o', none⟩) (memCells (ms.map v)) bl := (HR.out hp).to (fun o ho _ => (HB6.out.block bl ((HR.out hp).lt)).trans ho)
          exact h1.to (fun o ho hc => hk3.cells bl o ho hc hlB (fun e => by rw [HOB.out] at e; exact (HO.out _ e).2 rfl))
        have HX3 : Hid (W3.heap[b]? = some (.cells #[.slice (some ⟨b', o', none⟩) l c] 22)) := hk3.cells b _ ((HB6.out.block b (by omega)).trans HX.out) rfl hbB (fun e => by rw [HOB.out] at e; exact (HO.out _ e).1 rfl)
        have HO3 : Hid (∀ q, ownOf B W3 = some q → q ≠ b ∧ q ≠ bl) := fun q hq => by
          rcases (hk3.own q hq).1 with h1 | h1
          · rw [HOB.out] at h1; exact HO.out q h1
          · have h2 := (HR.out (by omega)).lt
            constructor <;> omega
        have HJ3 := Lib.hid hJ3
        have HS3 : Hid (W.heap.size ≤ W3.heap.size) := by show _ ≤ _; omega
        clear hk3 hJ3
        gi_wp2
        refine ⟨⟨k + 1, by go_num, by omega, HR3.out, HO3.out, HX3.out, HS3.out, by rw [HTS.out]; exact HJ3.out⟩, ?_⟩
        simp [intOf]
        omega
      · gi_wp2
        refine bodyPost_ret (results_none rfl _ _ _) rfl ?_
        exact ⟨⟨_, rfl⟩, .inr ⟨ms.take k ++ [x], HPX.out, hJx3⟩⟩
    · obtain rfl : k = l := by omega
      have hTA : ms.take k = ms := by rw [List.take_of_length_le (by have := HL.out; omega)]
      rw [hTA] at hJs
      have t0 : decide ((k : Int) < (k : Int)) = false := decide_eq_false (by omega)
      gi_wp2
      go_end0
      exact ⟨⟨_, rfl⟩, .inl ⟨ms, rfl, hJs⟩⟩
end Go.Proofs.YtjoifgeljjgflaaDoor
/- Layer 24: what an index without members tells of a folder: nothing. -/
namespace Go.Proofs.YtjoifgeljjgflaaDoor
open Go.RowKit Go.Shelf

theorem fnNil_in {P : Program} (w : World) (d : Nat) (t : TypeId) (ps rs : Array TypeId) (v : Bool) (f : Fn) (ts cs : Array Value) (h : P.underlying t = some (.func ps rs v)) :
    (Op.equalIn (d + 1) t (.func f ts cs) .nilFunc).run P w = .ok false w := by
  simp [Op.equalIn, run_underlying h]
/-- A function that is there held against nil. -/
theorem fnNil_run {P : Program} (w : World) (t : TypeId) (ps rs : Array TypeId) (v : Bool) (f : Fn) (ts cs : Array Value) (h : P.underlying t = some (.func ps rs v)) :
    (binOp .eql t (.func f ts cs) .nilFunc).run P w = .ok (.bool false) w := by
  simp only [binOp]
  simp [Op.equal, Op.maxDepth, fnNil_in w 9999 t ps rs v f ts cs h]
/-- An index that isn't there, or a zero one. -/
def IxNil (w : World) (p : Option Addr) : Prop := p = none ∨ ∃ base g, p = some ⟨g, 0, none⟩ ∧ LX w base g none 0 []
theorem IxNil.below {w w' : World} {p : Option Addr} {B : Nat} (h : IxNil w p) (hb : Below B w w') (hB : B = w.heap.size) : IxNil w' p := by
  rcases h with h | ⟨base, g, h1, h2⟩
  · exact .inl h
  · exact .inr ⟨base, g, h1, h2.below hb hB⟩
theorem below_put {B : Nat} {w W : World} {k : Nat} (h : Below B w W) (hk : B ≤ k) (o : Obj) : Below B w (W.putObj k o) := h.trans ⟨rfl, rfl, rfl, by simp [World.putObj], fun j hj => World.putObj_heap_other (by omega)⟩
end Go.Proofs.YtjoifgeljjgflaaDoor
