/- Layer 38: what Diff does with a name. -/
import Derived.Test.YtfnkbpcimbldbaaPnR
import Derived.Test.YtfnkbpcimbldbaaFiC
import Derived.Test.YtfnkbpcimbldbaaStG
import Derived.Deep.CutRange
import Derived.StillTailTactics
namespace Go.Proofs.Ytfnkbpcimbldbaa
open Go.RowKit

/-- A step in memory. -/
structure OL where
  kd : Int
  nm : ByteArray
  data : List UInt8
  ad : Option Addr
  cp : Nat
def OL.cells (o : OL) : List Value := [.int .i64 o.kd, .string o.nm, .slice o.ad o.data.length o.cp, .int .i64 0, .slice none 0 0, .int .i64 0, .int .u8 0]
def olCells (os : List OL) : List Value := (os.map OL.cells).flatten
def OL.po (o : OL) : PO := (o.kd, o.nm, o.data)
theorem ol_len (os : List OL) : (olCells os).length = os.length * 7 := by
  unfold olCells
  induction os with
  | nil => rfl
  | cons f l ih => rw [List.map_cons, List.flatten_cons, List.length_append, ih, List.length_cons]; show 7 + _ = _; omega
theorem olCells_snoc (l : List OL) (x : OL) : olCells (l ++ [x]) = olCells l ++ x.cells := by unfold olCells; simp
theorem olElem : Elem Try.prog 34 40 (.agg #[.int .i64 0, .string ⟨#[]⟩, .slice none 0 0, .int .i64 0, .slice none 0 0, .int .i64 0, .int .u8 0]) 7 96 := Elem.of Try.underlying34 (by kernel_rfl) (by kernel_rfl) (by omega)
abbrev DTwo (w : World) (base p q r : Nat) (Ag : Option Addr) (cg : Nat) (gs : List OL) (Ap : Option Addr) (cp : Nat) (ps : List OL) : Prop :=
  TwoR w base p q r 34 34 40 40 7 7 (.slice Ag gs.length cg) gs.length (olCells gs) (.slice Ap ps.length cp) ps.length (olCells ps)

def goneX (n : ByteArray) : Option Fi → List PO
  | none => [(11, n, [])]
  | some _ => []
def putX (n : ByteArray) (f : Option Fi) : Option Fi → List PO
  | none => []
  | some d => if f.map Fi.data = some d.data then [] else [(3, n, d.data)]
/-- What the closure leaves. -/
def DPost (w : World) (base p q r : Nat) (Ag : Option Addr) (cg : Nat) (gs : List OL) (Ap : Option Addr) (cp : Nat) (ps : List OL) (w' : World) (x y : List PO) : Prop :=
  ∃ Ag' cg' gx Ap' cp' px, TPost w w' base p q r 34 34 40 40 7 7 (.slice Ag gs.length cg) (.slice Ap ps.length cp) (.slice Ag' (gs ++ gx).length cg') (.slice Ap' (ps ++ px).length cp') (gs ++ gx).length (ps ++ px).length (olCells (gs ++ gx)) (olCells (ps ++ px)) ∧
    gx.map OL.po = x ∧ px.map OL.po = y ∧ (∀ o ∈ gx, o.data = []) ∧ ∀ o ∈ px, Keeps w' (twoS p q r (.slice Ag' (gs ++ gx).length cg') (.slice Ap' (ps ++ px).length cp')) o.ad o.data ∧ o.data.length ≤ o.cp
section
variable {w V w7 : World} {base p q r : Nat} {Ag A3 : Option Addr} {cg c3 : Nat} {gs : List OL} {Ap : Option Addr} {cp : Nat} {ps : List OL}
/-- Nothing is put. -/
theorem DPost.same (hT : DTwo w base p q r Ag cg gs Ap cp ps) (hb : Below w.heap.size w V) : DPost w base p q r Ag cg gs Ap cp ps V [] [] := by
  refine ⟨Ag, cg, [], Ap, cp, [], ?_, rfl, rfl, (by intro o ho; cases ho), (by intro o ho; cases ho)⟩
  rw [List.append_nil, List.append_nil]
  exact TPost.below hT hb
theorem DPost.gone (o : OL) (hT : DTwo w base p q r Ag cg gs Ap cp ps) (hr : r < w.heap.size) (hb : Below w.heap.size w V) (ho : o.data = [])
    (hA : App V base 40 7 (.slice Ag gs.length cg) (gs.length + 1) (olCells gs ++ o.cells) w7 (.slice A3 (gs.length + 1) c3)) : DPost w base p q r Ag cg gs Ap cp ps (w7.setCell ⟨p, 0, none⟩ (.slice A3 (gs.length + 1) c3)) [o.po] [] := by
  refine ⟨A3, c3, [o], Ap, cp, [], ?_, rfl, rfl, (by intro o' ho'; rw [List.mem_singleton] at ho'; subst ho'; exact ho), (by intro o ho; cases ho)⟩
  rw [List.append_nil, olCells_snoc, List.length_append]
  exact TPost.app hT hr hb hA
theorem DPost.put (o : OL) (hT : DTwo w base p q r Ag cg gs Ap cp ps) (hr : r < w.heap.size) (hb : Below w.heap.size w V)
    (hk : Keeps V (twoS p q r (.slice Ag gs.length cg) (.slice Ap ps.length cp)) o.ad o.data) (hc : o.data.length ≤ o.cp)
    (hA : App V base 40 7 (.slice Ap ps.length cp) (ps.length + 1) (olCells ps ++ o.cells) w7 (.slice A3 (ps.length + 1) c3)) : DPost w base p q r Ag cg gs Ap cp ps (w7.setCell ⟨q, 0, none⟩ (.slice A3 (ps.length + 1) c3)) [] [o.po] := by
  have hrV := Nat.lt_of_lt_of_le hr hb.size
  have t1 := TPost.app hT.swap hr hb hA
  have t2 := TPost.app (hT.keepN hb).swap hrV (Below.refl _ _) hA
  refine ⟨Ag, cg, [], A3, c3, [o], ?_, rfl, rfl, (by intro o ho; cases ho), ?_⟩
  · rw [List.append_nil, olCells_snoc, List.length_append]
    exact t1.swap
  · intro o' ho'
    rw [List.mem_singleton] at ho'
    subst ho'
    rw [List.append_nil, List.length_append]
    exact ⟨hk.on t2.swap, hc⟩
end
theorem step_app1c {P : Program} (w : World) {ops : Array Oper} {o : Oper} {a : Act} {K : Act → World → Prop} {Q : Exit → Act → World → Prop} {F : Prop} {t e : TypeId} {z : Value} {size bytes : Nat} (E : Elem P t e z size bytes) (hgd : o.guard = none) (s x : Operand)
    (ho : o.op = .call { callee := .builtin .append, args := #[s, x], argTypes := #[t, t] }) (base : Nat)
    (v : Value) (n : Nat) (xs : List Value) (hs : a.eval s = v) (hown : w.ownsRow base e size v n xs)
    (C : Array Value) (hx : a.eval x = .slice (some ⟨w.heap.size, 0, none⟩) 1 1) (hC : C.size = size) (h1 : ∀ u ∈ C.toList, u.oneCell' = true)
    (h63 : n + 1 ≤ maxLen) (hbytes : (n + 1) * bytes ≤ 140737488355328) (hbase : base ≤ w.heap.size)
    (h : ∀ A' c' w', App w base e size v (n + 1) (xs ++ C.toList) w' (.slice A' (n + 1) c') → K (a.put o.dst (.slice A' (n + 1) c')) w') :
    if Region.wanted o (yielded ops a.tmps) = true then Oper.wp P o a (w.alloc (.cells C e)) K Q else F := by
  refine step_app (w.alloc (.cells C e)) E hgd s x ho base v n xs hs (hown.alloc _) (w.heap.size + 1) (some ⟨w.heap.size, 0, none⟩) 1 1 C.toList hx (by rw [Nat.one_mul]; exact hC) ?_ h1 h63 hbytes (by simp; omega)
    (fun A' c' w' hA => h A' c' w' hA.behind)
  refine fun _ => ⟨_, 0, rfl, Nat.lt_succ_self _, fun j u hu => ?_⟩
  rw [cell_of_row _ _ _ _ _ _ (heap_alloc_new w _)]
  simpa using hu
theorem own_capF {w : World} {base n c k : Nat} {A : Option Addr} {e : TypeId} {xs : List Value} (h : w.ownsRow base e k (.slice A n c) n xs) : n ≤ c := by
  rcases h.2 with ⟨_, h2⟩ | ⟨g, cap, cur, hv, _, _, hnc, _⟩
  · omega
  · simp only [Value.slice.injEq] at hv
    omega
/-- Two boxes behind a world. -/
def Box2 (w : World) (t : TypeId) (C D : Array Value) (i j : Nat) (V : World) : Prop := Below w.heap.size w V ∧ w.heap.size ≤ i ∧ w.heap.size ≤ j ∧ V.heap[i]? = some (.cells C t (0, 0)) ∧ V.heap[j]? = some (.cells D t (0, 0))
theorem box2_a (w : World) (t : TypeId) (C D : Array Value) : Box2 w t C D w.heap.size (w.heap.size + 1) ((w.alloc (.cells C t)).alloc (.cells D t)).drew := by
  refine ⟨Below.drewN (((Below.refl _ w).alloc (Nat.le_refl _) _).alloc (by simp) _) 1, Nat.le_refl _, Nat.le_succ _, ?_, ?_⟩
  · exact (Below.heap_alloc _ _ _ (by simp)).trans (heap_alloc_new w _)
  · have h := heap_alloc_new (w.alloc (.cells C t)) (.cells D t)
    rw [World.size_alloc] at h
    exact h
theorem box2_b (w : World) (t : TypeId) (C D : Array Value) : Box2 w t C D (w.heap.size + 1) w.heap.size ((w.alloc (.cells D t)).alloc (.cells C t)).drew := by
  obtain ⟨h1, h2, h3, h4, h5⟩ := box2_a w t D C
  exact ⟨h1, h3, h2, h5, h4⟩

set_option maxRecDepth 100000 in
set_option maxHeartbeats 4000000 in
theorem diffCl_any (base B p q r h : Nat) (n : ByteArray) (f t : Option Fi) (Ag Ap : Option Addr) (cg cp : Nat) (gs ps : List OL) (w : World) (hT : DTwo w base p q r Ag cg gs Ap cp ps) (hr : r < w.heap.size) (hH : HeldB w h 2 [f, t]) (hf : BytesO w B f) (ht : BytesO w B t) (hl : (dataO t).length ≤ 1000000) (hg : gs.length ≤ 1000000) (hp : ps.length ≤ 1000000) (hB : B ≤ w.heap.size) (hba : base ≤ w.heap.size) :
    Calls Try.prog 19 #[.string n, .slice (some ⟨h, 0, none⟩) 2 2, .pointer (some ⟨p, 0, none⟩), .pointer (some ⟨q, 0, none⟩)] w fun e w' => e = .returned (.tuple #[]) ∧
      DPost w base p q r Ag cg gs Ap cp ps w' (goneX n t) (putX n f t) := by
  obtain ⟨h0, h1⟩ := hH.at (i := 0) (o := f) rfl
  obtain ⟨h2, h3⟩ := hH.at (i := 1) (o := t) rfl
  rw [Nat.zero_mul] at h0 h1
  rw [Nat.one_mul] at h2 h3
  have HSM : Hid (∀ V, Below w.heap.size w V → Calls Try.prog 14 #[heldV f, heldV t] V fun e w' => e = .returned (.bool (decide (f.map Fi.data = t.map Fi.data))) ∧ Below V.heap.size V w') := fun V hV =>
    same_any f t B V (fun x hx => (hf x hx).below hV hB) (fun x hx => (ht x hx).below hV hB) (Nat.le_trans hB hV.size)
  obtain ⟨A1, c1, ha1, _⟩ := heldA_form f
  obtain ⟨A2, c2, ha2, hb2⟩ := heldA_form t
  have HBT := Lib.hid (hb2 w B ht)
  obtain ⟨l1, hl1⟩ : ∃ l, (dataO f).length = l := ⟨_, rfl⟩
  obtain ⟨t1, ht1⟩ : ∃ t, f.isSome = t := ⟨_, rfl⟩
  obtain ⟨t2, ht2⟩ : ∃ b, t.isSome = b := ⟨_, rfl⟩
  obtain ⟨l2, hl2⟩ : ∃ l, (dataO t).length = l := ⟨_, rfl⟩
  rw [ha1, hl1] at h0
  rw [ha2, hl2] at h2
  rw [ht1] at h1
  rw [ht2] at h3
  unfold heldV at HSM
  rw [ha1, ha2, hl1, hl2, ht1, ht2] at HSM
  rw [hl2] at hl
  have HL2 := Lib.hid hl2
  have HT2 := Lib.hid ht2
  obtain ⟨hh, hhb⟩ : ∃ cur, w.heap[h]? = some (.cells cur 44 (0, 0)) := by obtain ⟨cur, hb, _⟩ := hH; exact ⟨cur, hb⟩
  have hhl := (Array.getElem?_eq_some_iff.1 hhb).1
  have al : ∀ (k : Nat) (v : Value), w.cell? ⟨h, k, none⟩ = some v → (∀ o, (w.alloc o).cell? ⟨h, k, none⟩ = some v) ∧ ∀ o o2, ((w.alloc o).alloc o2).cell? ⟨h, k, none⟩ = some v := fun k v hv =>
    ⟨fun o => (World.cell?_alloc_lt w o _ hhl).trans hv, fun o o2 => (World.cell?_alloc_lt _ o2 _ (by rw [World.size_alloc]; exact Nat.lt_succ_of_lt hhl)).trans ((World.cell?_alloc_lt w o _ hhl).trans hv)⟩
  obtain ⟨a0, b0⟩ := al _ _ h0
  obtain ⟨a1, b1⟩ := al _ _ h1
  obtain ⟨a2, b2⟩ := al _ _ h2
  obtain ⟨a3, b3⟩ := al _ _ h3
  have HT := Lib.hid hT
  have HB := Lib.hid hB
  have HR := Lib.hid hr
  have HBA := Lib.hid hba
  clear al hhb hhl hH hf ht ha1 ha2 hb2 hl1 ht1 hT hB hr hl2 ht2 hba
  go_enter Try.func19, Try.ntmps19
  go_upto_region 0 with fail
  go_cut [6, 7] from 8 to 13 (fun x y wx => ∃ i j, x = .pointer (some ⟨i, 0, none⟩) ∧ y = .pointer (some ⟨j, 0, none⟩) ∧ Box2 w 44 #[.slice A1 l1 c1, .bool t1] #[.slice A2 l2 c2, .bool t2] i j wx)
  case first =>
    go_region
    all_goals
      go_wp2_with fail
      go_meet
      case rel => first | exact ⟨_, _, rfl, rfl, box2_a _ _ _ _⟩ | exact ⟨_, _, rfl, rfl, box2_b _ _ _ _⟩
  case rest =>
  obtain ⟨i, j, rfl, rfl, hx⟩ := hcut
  clear h0 h1 h2 h3 a0 a1 a2 a3 b0 b1 b2 b3
  obtain ⟨hbw, hi, hj, bi, bj⟩ := hx
  have e0 : wc.cell? ⟨i, 0, none⟩ = some (.slice A1 l1 c1) := cell_of_row _ _ 0 _ _ _ bi
  have e1 : wc.cell? ⟨i, 1, none⟩ = some (.bool t1) := cell_of_row _ _ 1 _ _ _ bi
  have g0 : wc.cell? ⟨j, 0, none⟩ = some (.slice A2 l2 c2) := cell_of_row _ _ 0 _ _ _ bj
  have g1 : wc.cell? ⟨j, 1, none⟩ = some (.bool t2) := cell_of_row _ _ 1 _ _ _ bj
  have HBW := Lib.hid hbw
  have HBJ := Lib.hid bj
  have HTC := Lib.hid (HT.out.keepN hbw)
  clear hi hj bi bj hbw
  cases t with
  | none =>
    obtain rfl : t2 = false := HT2.out.symm
    have x0 : wc.cell? ⟨p, 0, none⟩ = some (.slice Ag gs.length cg) := cell_of_row _ _ 0 _ _ _ HTC.out.bp
    go_wp2_with (at_builtin; go_must (skip; refine wpList_app1 wc olElem rfl (.tmp 18) (.tmp 21) rfl base (.slice Ag gs.length cg) gs.length _ rfl HTC.out.rp #[.int .i64 11, .string n, .slice none 0 0, .int .i64 0, .slice none 0 0, .int .i64 0, .int .u8 0] rfl rfl (by intro u hu; simp only [List.mem_cons, List.not_mem_nil, or_false] at hu; rcases hu with rfl | rfl | rfl | rfl | rfl | rfl | rfl <;> rfl) (by unfold maxLen; omega) (by omega) (Nat.le_trans HBA.out HBW.out.size) ?_; intro A3 c3 w3 hA; have HA := Lib.hid hA; have hq3 := (Mod.of_app hA).keep HTC.out.bp (fun e => by have := (HTC.out.rp.lt p e).1; have := HTC.out.lo; omega); have x3 : w3.cell? ⟨p, 0, none⟩ = some (.slice Ag gs.length cg) := cell_of_row _ _ 0 _ _ _ hq3; have f3 : w3.frozen? ⟨p, 0, none⟩ = false := box_free hq3 0; clear hA hq3))
    go_end0
    exact ⟨rfl, DPost.gone ⟨11, n, [], none, 0⟩ HT.out HR.out HBW.out rfl HA.out⟩
  | some y =>
    obtain rfl : t2 = true := HT2.out.symm
    have HS := Lib.hid (HSM.out wc HBW.out)
    by_cases hd : f.map Fi.data = some y.data
    · have HD : Hid (decide (f.map Fi.data = (some y).map Fi.data) = true) := decide_eq_true hd
      rw [HD.out] at HS
      have HP : Hid (putX n f (some y) = []) := if_pos hd
      clear hd
      go_wp2_with (go_at_call 14; refine HS.out.mono ?_; rintro e w2 ⟨rfl, hb2⟩; have HB2 := Lib.hid hb2; clear hb2)
      go_end0
      exact ⟨rfl, by rw [HP.out]; exact DPost.same HT.out (HBW.out.trans (HB2.out.mono HBW.out.size))⟩
    · have HD : Hid (decide (f.map Fi.data = (some y).map Fi.data) = false) := decide_eq_false hd
      rw [HD.out] at HS
      have HP : Hid (putX n f (some y) = [(3, n, y.data)]) := if_neg hd
      clear hd
      go_wp2_with (go_at_call 14; refine HS.out.mono ?_; rintro e w2 ⟨rfl, hb2⟩; have HB2 := Lib.hid hb2; clear hb2)
      have HBX := Lib.hid (HBW.out.trans (HB2.out.mono HBW.out.size))
      have HT2 := Lib.hid (HT.out.keepN HBX.out)
      have hj2 := (Mod.of_below HB2.out).keep HBJ.out (fun h => h.elim)
      have z0 : w2.cell? ⟨j, 0, none⟩ = some (.slice A2 l2 c2) := cell_of_row _ _ 0 _ _ _ hj2
      have x0 : w2.cell? ⟨q, 0, none⟩ = some (.slice Ap ps.length cp) := cell_of_row _ _ 0 _ _ _ HT2.out.bq
      have HCL := Lib.hid (cloneB_any A2 l2 c2 y.data B w2.drew HL2.out hl (HBT.out.below (Below.drewN HBX.out 1) HB.out))
      clear hj2
      go_region_law (first
        | (go_simp; go_at_call 15; refine HCL.out.mono ?_; rintro e w5 ⟨A5, c5, rfl, ho5, hb5⟩; have HO5 := Lib.hid ho5; have HB5 := Lib.hid (show Below w.heap.size w w5 from HBX.out.trans ((Below.drewN (Below.refl _ w2) 1).trans (hb5.mono HBX.out.size))); have HT5 := Lib.hid (HT.out.keepN HB5.out); have x5 : w5.cell? ⟨q, 0, none⟩ = some (.slice Ap ps.length cp) := cell_of_row _ _ 0 _ _ _ HT5.out.bq; have y5 : ∀ o, (w5.alloc o).cell? ⟨q, 0, none⟩ = some (.slice Ap ps.length cp) := fun o => (World.cell?_alloc_lt w5 o _ (HT5.out.lt.2)).trans x5; clear ho5 hb5)
        | (refine step_app1c w5 olElem (by rfl) (.tmp 28) (.tmp 34) (by rfl) base (.slice Ap ps.length cp) ps.length (olCells ps) (by rfl) HT5.out.rq #[.int .i64 3, .string n, .slice A5 l2 c5, .int .i64 0, .slice none 0 0, .int .i64 0, .int .u8 0] (by rfl) (by rfl) (by intro u hu; simp only [List.mem_cons, List.not_mem_nil, or_false] at hu; rcases hu with rfl | rfl | rfl | rfl | rfl | rfl | rfl <;> rfl) (by unfold maxLen; omega) (by omega) (Nat.le_trans HBA.out HB5.out.size) ?_; intro A6 c6 w6 hA; have HA := Lib.hid hA; have hq6 := (Mod.of_app hA).keep HT5.out.bq (fun e => by have := (HT5.out.rq.lt q e).1; have := HT.out.lo; omega); have x6 : w6.cell? ⟨q, 0, none⟩ = some (.slice Ap ps.length cp) := cell_of_row _ _ 0 _ _ _ hq6; have f6 : w6.frozen? ⟨q, 0, none⟩ = false := box_free hq6 0; clear hA hq6))
      all_goals
        go_wp2
        go_end0
        obtain rfl : y.data.length = l2 := HL2.out
        exact ⟨rfl, by rw [HP.out]; exact DPost.put ⟨3, n, y.data, A5, c5⟩ HT.out HR.out HB5.out (Keeps.of_own HO5.out (HT2.out.low (Nat.lt_of_lt_of_le HR.out HBX.out.size))) (own_capF HO5.out) HA.out⟩
end Go.Proofs.Ytfnkbpcimbldbaa
