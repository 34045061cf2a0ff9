/- Layer 38: what Diff does with a name. -/
import Derived.Test.YtfnkbpcimbldbaaDoorMgQ32427
import Derived.Test.YtfnkbpcimbldbaaDoorMgQ32421
import Derived.Test.YtfnkbpcimbldbaaDoorMgQ324SStG
import Derived.Deep.CutRange
import Derived.StillTailTactics
namespace Go.Proofs.YtfnkbpcimbldbaaDoor
open Go.RowKit

/-- A step in memory. -/
structure OL where
  kd : Int
  nm : ByteArray
  data : List UInt8
  ad : Option Addr
  cp : Nat
def OL.cells (o : OL) : List Value := [.int .i64 o.kd, .string o.nm, .slice o.ad o.data.length o.cp, .int .i64 0, .slice none 0 0, .int .i64 0, .int .u8 0]
def olCells (os : List OL) : List Value := (os.map OL.cells).flatten
def OL.po (o : OL) : PO := (o.kd, o.nm, o.data)
theorem ol_len (os : List OL) : (olCells os).length = os.length * 7 := by
  unfold olCells
  induction os with
  | nil => rfl
  | cons f l ih => rw [List.map_cons, List.flatten_cons, List.length_append, ih, List.length_cons]; show 7 + _ = _; omega
theorem olCells_snoc (l : List OL) (x : OL) : olCells (l ++ [x]) = olCells l ++ x.cells := by unfold olCells; simp
theorem olElem : Elem Tryd.prog 26 49 (.agg #[.int .i64 0, .string ⟨#[]⟩, .slice none 0 0, .int .i64 0, .slice none 0 0, .int .i64 0, .int .u8 0]) 7 96 := Elem.of Tryd.underlying26 (by kernel_rfl) (by kernel_rfl) (by omega)
abbrev DTwo (w : World) (base p q r : Nat) (Ag : Option Addr) (cg : Nat) (gs : List OL) (Ap : Option Addr) (cp : Nat) (ps : List OL) : Prop :=
  TwoR w base p q r 26 26 49 49 7 7 (.slice Ag gs.length cg) gs.length (olCells gs) (.slice Ap ps.length cp) ps.length (olCells ps)

def goneX (n : ByteArray) : Option Fi → List PO
  | none => [(11, n, [])]
  | some _ => []
def putX (n : ByteArray) (f : Option Fi) : Option Fi → List PO
  | none => []
  | some d => if f.map Fi.data = some d.data then [] else [(3, n, d.data)]
/-- What the closure leaves. -/
def DPost (w : World) (base p q r : Nat) (Ag : Option Addr) (cg : Nat) (gs : List OL) (Ap : Option Addr) (cp : Nat) (ps : List OL) (w' : World) (x y : List PO) : Prop :=
  ∃ Ag' cg' gx Ap' cp' px, TPost w w' base p q r 26 26 49 49 7 7 (.slice Ag gs.length cg) (.slice Ap ps.length cp) (.slice Ag' (gs ++ gx).length cg') (.slice Ap' (ps ++ px).length cp') (gs ++ gx).length (ps ++ px).length (olCells (gs ++ gx)) (olCells (ps ++ px)) ∧
    gx.map OL.po = x ∧ px.map OL.po = y ∧ (∀ o ∈ gx, o.data = []) ∧ ∀ o ∈ px, Keeps w' (twoS p q r (.slice Ag' (gs ++ gx).length cg') (.slice Ap' (ps ++ px).length cp')) o.ad o.data ∧ o.data.length ≤ o.cp
section
variable {w V w7 : World} {base p q r : Nat} {Ag A3 : Option Addr} {cg c3 : Nat} {gs : List OL} {Ap : Option Addr} {cp : Nat} {ps : List OL}
/-- Nothing is put. -/
theorem DPost.same (hT : DTwo w base p q r Ag cg gs Ap cp ps) (hb : Below w.heap.size w V) : DPost w base p q r Ag cg gs Ap cp ps V [] [] := by
  refine ⟨Ag, cg, [], Ap, cp, [], ?_, rfl, rfl, (by intro o ho; cases ho), (by intro o ho; cases ho)⟩
  rw [List.append_nil, List.append_nil]
  exact TPost.below hT hb
theorem DPost.gone (o : OL) (hT : DTwo w base p q r Ag cg gs Ap cp ps) (hr : r < w.heap.size) (hb : Below w.heap.size w V) (ho : o.data = [])
    (hA : App V base 49 7 (.slice Ag gs.length cg) (gs.length + 1) (olCells gs ++ o.cells) w7 (.slice A3 (gs.length + 1) c3)) : DPost w base p q r Ag cg gs Ap cp ps (w7.setCell ⟨p, 0, none⟩ (.slice A3 (gs.length + 1) c3)) [o.po] [] := by
  refine ⟨A3, c3, [o], Ap, cp, [], ?_, rfl, rfl, (by intro o' ho'; rw [List.mem_singleton] at ho'; subst ho'; exact ho), (by intro o ho; cases ho)⟩
  rw [List.append_nil, olCells_snoc, List.length_append]
  exact TPost.app hT hr hb hA
theorem DPost.put (o : OL) (hT : DTwo w base p q r Ag cg gs Ap cp ps) (hr : r < w.heap.size) (hb : Below w.heap.size w V)
    (hk : Keeps V (twoS p q r (.slice Ag gs.length cg) (.slice Ap ps.length cp)) o.ad o.data) (hc : o.data.length ≤ o.cp)
    (hA : App V base 49 7 (.slice Ap ps.length cp) (ps.length + 1) (olCells ps ++ o.cells) w7 (.slice A3 (ps.length + 1) c3)) : DPost w base p q r Ag cg gs Ap cp ps (w7.setCell ⟨q, 0, none⟩ (.slice A3 (ps.length + 1) c3)) [] [o.po] := by
  have hrV := Nat.lt_of_lt_of_le hr hb.size
  have t1 := TPost.app hT.swap hr hb hA
  have t2 := TPost.app (hT.keepN hb).swap hrV (Below.refl _ _) hA
  refine ⟨Ag, cg, [], A3, c3, [o], ?_, rfl, rfl, (by intro o ho; cases ho), ?_⟩
  · rw [List.append_nil, olCells_snoc, List.length_append]
    exact t1.swap
  · intro o' ho'
    rw [List.mem_singleton] at ho'
    subst ho'
    rw [List.append_nil, List.length_append]
    exact ⟨hk.on t2.swap, hc⟩
end
theorem step_app1c {P : Program} (w : World) {ops : Array Oper} {o : Oper} {a : Act} {K : Act → World → Prop} {Q : Exit → Act → World → Prop} {F : Prop} {t e : TypeId} {z : Value} {size bytes : Nat} (E : Elem P t e z size bytes) (hgd : o.guard = none) (s x : Operand)
    (ho : o.op = .call { callee := .builtin .append, args := #[s, x], argTypes := #[t, t] }) (base : Nat)
    (v : Value) (n : Nat) (xs : List Value) (hs : a.eval s = v) (hown : w.ownsRow base e size v n xs)
    (C : Array Value) (hx : a.eval x = .slice (some ⟨w.heap.size, 0, none⟩) 1 1) (hC : C.size = size) (h1 : ∀ u ∈ C.toList, u.oneCell' = true)
    (h63 : n + 1 ≤ maxLen) (hbytes : (n + 1) * bytes ≤ 140737488355328) (hbase : base ≤ w.heap.size)
    (h : ∀ A' c' w', App w base e size v (n + 1) (xs ++ C.toList) w' (.slice A' (n + 1) c') → K (a.put o.dst (.slice A' (n + 1) c')) w') :
    if Region.wanted o (yielded ops a.tmps) = true then Oper.wp P o a (w.alloc (.cells C e)) K Q else F := by
  refine step_app (w.alloc (.cells C e)) E hgd s x ho base v n xs hs (hown.alloc _) (w.heap.size + 1) (some ⟨w.heap.size, 0, none⟩) 1 1 C.toList hx (by rw [Nat.one_mul]; exact hC) ?_ h1 h63 hbytes (by simp; omega)
    (fun A' c' w' hA => h A' c' w' hA.behind)
  refine fun _ => ⟨_, 0, rfl, Nat.lt_succ_self _, fun j u hu => ?_⟩
  rw [cell_of_row _ _ _ _ _ _ (heap_alloc_new w _)]
  simpa using hu
theorem own_capF {w : World} {base n c k : Nat} {A : Option Addr} {e : TypeId} {xs : List Value} (h : w.ownsRow base e k (.slice A n c) n xs) : n ≤ c := by
  rcases h.2 with ⟨_, h2⟩ | ⟨g, cap, cur, hv, _, _, hnc, _⟩
  · omega
  · simp only [Value.slice.injEq] at hv
    omega
/-- Two boxes behind a world. -/
def Box2 (w : World) (t : TypeId) (C D : Array Value) (i j : Nat) (V : World) : Prop := Below w.heap.size w V ∧ w.heap.size ≤ i ∧ w.heap.size ≤ j ∧ V.heap[i]? = some (.cells C t (0, 0)) ∧ V.heap[j]? = some (.cells D t (0, 0))
theorem box2_a (w : World) (t : TypeId) (C D : Array Value) : Box2 w t C D w.heap.size (w.heap.size + 1) ((w.alloc (.cells C t)).alloc (.cells D t)).drew := by
  refine ⟨Below.drewN (((Below.refl _ w).alloc (Nat.le_refl _) _).alloc (by simp) _) 1, Nat.le_refl _, Nat.le_succ _, ?_, ?_⟩
  · exact (Below.heap_alloc _ _ _ (by simp)).trans (heap_alloc_new w _)
  · have h := heap_alloc_new (w.alloc (.cells C t)) (.cells D t)
    rw [World.size_alloc] at h
    exact h
theorem box2_b (w : World) (t : TypeId) (C D : Array Value) : Box2 w t C D (w.heap.size + 1) w.heap.size ((w.alloc (.cells D t)).alloc (.cells C t)).drew := by
  obtain ⟨h1, h2, h3, h4, h5⟩ := box2_a w t D C
  exact ⟨h1, h3, h2, h5, h4⟩

set_option maxRecDepth 100000 in
set_option maxHeartbeats 4000000 in
theorem diffCl_any (base B p q r h : Nat) (n : ByteArray) (f t : Option Fi) (Ag Ap : Option Addr) (cg cp : Nat) (gs ps : List OL) (w : World) (hT : DTwo w base p q r Ag cg gs Ap cp ps) (hr : r < w.heap.size) (hH : HeldB w h 2 [f, t]) (hf : BytesO w B f) (ht : BytesO w B t) (hl : (dataO t).length ≤ 1000000) (hg : gs.length ≤ 1000000) (hp : ps.length ≤ 1000000) (hB : B ≤ w.heap.size) (hba : base ≤ w.heap.size) :
    Calls Tryd.prog 25 #[.string n, .slice (some ⟨h, 0, none⟩) 2 2, .pointer (some ⟨p, 0, none⟩), .pointer (some ⟨q, 0, none⟩)] w fun e w' => e = .returned (.tuple #[]) ∧
      DPost w base p q r Ag cg gs Ap cp ps w' (goneX n t) (putX n f t) := by
  obtain ⟨h0, h1⟩ := hH.at (i := 0) (o := f) rfl
  obtain ⟨h2, h3⟩ := hH.at (i := 1) (o := t) rfl
  rw [Nat.zero_mul] at h0 h1
  rw [Nat.one_mul] at h2 h3
  have HSM : Hid (∀ V, Below w.heap.size w V → Calls Tryd.prog 26 #[heldV f, heldV t] V fun e w' => e = .returned (.bool (decide (f.map Fi.data = t.map Fi.data))) ∧ Below V.heap.size V w') := fun V hV =>
    same_any f t B V (fun x hx => (hf x hx).below hV hB) (fun x hx => (ht x hx).below hV hB) (Nat.le_trans hB hV.size)
  obtain ⟨A1, c1, ha1, _⟩ := heldA_form f
  obtain ⟨A2, c2, ha2, hb2⟩ := heldA_form t
  have HBT := Lib.hid (hb2 w B ht)
  obtain ⟨l1, hl1⟩ : ∃ l, (dataO f).length = l := ⟨_, rfl⟩
  obtain ⟨t1, ht1⟩ : ∃ t, f.isSome = t := ⟨_, rfl⟩
  obtain ⟨t2, ht2⟩ : ∃ b, t.isSome = b := ⟨_, rfl⟩
  obtain ⟨l2, hl2⟩ : ∃ l, (dataO t).length = l := ⟨_, rfl⟩
  rw [ha1, hl1] at h0
  rw [ha2, hl2] at h2
  rw [ht1] at h1
  rw [ht2] at h3
  unfold heldV at HSM
  rw [ha1, ha2, hl1, hl2, ht1, ht2] at HSM
  rw [hl2] at hl
  have HL2 := Lib.hid hl2
  have HT2 := Lib.hid ht2
  obtain ⟨hh, hhb⟩ : ∃ cur, w.heap[h]? = some (.cells cur 54 (0, 0)) := by obtain ⟨cur, hb, _⟩ := hH; exact ⟨cur, hb⟩
  have hhl := (Array.getElem?_eq_some_iff.1 hhb).1
  have al : ∀ (k : Nat) (v : Value), w.cell? ⟨h, k, none⟩ = some v → (∀ o, (w.alloc o).cell? ⟨h, k, none⟩ = some v) ∧ ∀ o o2, ((w.alloc o).alloc o2).cell? ⟨h, k, none⟩ = some v := fun k v hv =>
    ⟨fun o => (World.cell?_alloc_lt w o _ hhl).trans hv, fun o o2 => (World.cell?_alloc_lt _ o2 _ (by rw [World.size_alloc]; exact Nat.lt_succ_of_lt hhl)).trans ((World.cell?_alloc_lt w o _ hhl).trans hv)⟩
  obtain ⟨a0, b0⟩ := al _ _ h0
  obtain ⟨a1, b1⟩ := al _ _ h1
  obtain ⟨a2, b2⟩ := al _ _ h2
  obtain ⟨a3, b3⟩ := al _ _ h3
  have HT := Lib.hid hT
  have HB := Lib.hid hB
  have HR := Lib.hid hr
  have HBA := Lib.hid hba
  clear al hhb hhl hH hf ht ha1 ha2 hb2 hl1 ht1 hT hB hr hl2 ht2 hba
  go_enter Tryd.func25, Tryd.ntmps25
  go_upto_region 0 with fail
  go_cut [6, 7] from 8 to 13 (fun x y wx => ∃ i j, x = .pointer (some ⟨i, 0, none⟩) ∧ y = .pointer (some ⟨j, 0, none⟩) ∧ Box2 w 54 #[.slice A1 l1 c1, .bool t1] #[.slice A2 l2 c2, .bool t2] i j wx)
  case first =>
    go_region
    all_goals
      go_wp2_with fail
      go_meet
      case rel => first | exact ⟨_, _, rfl, rfl, box2_a _ _ _ _⟩ | exact ⟨_, _, rfl, rfl, box2_b _ _ _ _⟩
  case rest =>
  obtain ⟨i, j, rfl, rfl, hx⟩ := hcut
  clear h0 h1 h2 h3 a0 a1 a2 a3 b0 b1 b2 b3
  obtain ⟨hbw, hi, hj, bi, bj⟩ := hx
  have e0 : wc.cell? ⟨i, 0, none⟩ = some (.slice A1 l1 c1) := cell_of_row _ _ 0 _ _ _ bi
  have e1 : wc.cell? ⟨i, 1, none⟩ = some (.bool t1) := cell_of_row _ _ 1 _ _ _ bi
  have g0 : wc.cell? ⟨j, 0, none⟩ = some (.slice A2 l2 c2) := cell_of_row _ _ 0 _ _ _ bj
  have g1 : wc.cell? ⟨j, 1, none⟩ = some (.bool t2) := cell_of_row _ _ 1 _ _ _ bj
  have HBW := Lib.hid hbw
  have HBJ := Lib.hid bj
  have HTC := Lib.hid (HT.out.keepN hbw)
  clear hi hj bi bj hbw
  cases t with
  | none =>
    obtain rfl : t2 = false := HT2.out.symm
    have x0 : wc.cell? ⟨p, 0, none⟩ = some (.slice Ag gs.length cg) := cell_of_row _ _ 0 _ _ _ HTC.out.bp
    go_wp2_with (at_builtin; go_must (skip; refine wpList_app1 wc olElem rfl (.tmp 18) (.tmp 21) rfl base (.slice Ag gs.length cg) gs.length _ rfl HTC.out.rp #[.int .i64 11, .string n, .slice none 0 0, .int .i64 0, .slice none 0 0, .int .i64 0, .int .u8 0] rfl rfl (by intro u hu; simp only [List.mem_cons, List.not_mem_nil, or_false] at hu; rcases hu with rfl | rfl | rfl | rfl | rfl | rfl | rfl <;> rfl) (by unfold maxLen; omega) (by omega) (Nat.le_trans HBA.out HBW.out.size) ?_; intro A3 c3 w3 hA; have HA := Lib.hid hA; have hq3 := (Mod.of_app hA).keep HTC.out.bp (fun e => by have := (HTC.out.rp.lt p e).1; have := HTC.out.lo; omega); have x3 : w3.cell? ⟨p, 0, none⟩ = some (.slice Ag gs.length cg) := cell_of_row _ _ 0 _ _ _ hq3; have f3 : w3.frozen? ⟨p, 0, none⟩ = false := box_free hq3 0; clear hA hq3))
    go_end0
    exact ⟨rfl, DPost.gone ⟨11, n, [], none, 0⟩ HT.out HR.out HBW.out rfl HA.out⟩
  | some y =>
    obtain rfl : t2 = true := HT2.out.symm
    have HS := Lib.hid (HSM.out wc HBW.out)
    by_cases hd : f.map Fi.data = some y.data
    · have HD : Hid (decide (f.map Fi.data = (some y).map Fi.data) = true) := decide_eq_true hd
      rw [HD.out] at HS
      have HP : Hid (putX n f (some y) = []) := if_pos hd
      clear hd
      go_wp2_with (go_at_call 26; refine HS.out.mono ?_; rintro e w2 ⟨rfl, hb2⟩; have HB2 := Lib.hid hb2; clear hb2)
      go_end0
      exact ⟨rfl, by rw [HP.out]; exact DPost.same HT.out (HBW.out.trans (HB2.out.mono HBW.out.size))⟩
    · have HD : Hid (decide (f.map Fi.data = (some y).map Fi.data) = false) := decide_eq_false hd
      rw [HD.out] at HS
      have HP : Hid (putX n f (some y) = [(3, n, y.data)]) := if_neg hd
      clear hd
      go_wp2_with (go_at_call 26; refine HS.out.mono ?_; rintro e w2 ⟨rfl, hb2⟩; have HB2 := Lib.hid hb2; clear hb2)
      have HBX := Lib.hid (HBW.out.trans (HB2.out.mono HBW.out.size))
      have HT2 := Lib.hid (HT.out.keepN HBX.out)
      have hj2 := (Mod.of_below HB2.out).keep HBJ.out (fun h => h.elim)
      have z0 : w2.cell? ⟨j, 0, none⟩ = some (.slice A2 l2 c2) := cell_of_row _ _ 0 _ _ _ hj2
      have x0 : w2.cell? ⟨q, 0, none⟩ = some (.slice Ap ps.length cp) := cell_of_row _ _ 0 _ _ _ HT2.out.bq
      have HCL := Lib.hid (cloneB_any A2 l2 c2 y.data B w2.drew HL2.out hl (HBT.out.below (Below.drewN HBX.out 1) HB.out))
      clear hj2
      go_region_law (first
        | (go_simp; go_at_call 27; refine HCL.out.mono ?_; rintro e w5 ⟨A5, c5, rfl, ho5, hb5⟩; have HO5 := Lib.hid ho5; have HB5 := Lib.hid (show Below w.heap.size w w5 from HBX.out.trans ((Below.drewN (Below.refl _ w2) 1).trans (hb5.mono HBX.out.size))); have HT5 := Lib.hid (HT.out.keepN HB5.out); have x5 : w5.cell? ⟨q, 0, none⟩ = some (.slice Ap ps.length cp) := cell_of_row _ _ 0 _ _ _ HT5.out.bq; have y5 : ∀ o, (w5.alloc o).cell? ⟨q, 0, none⟩ = some (.slice Ap ps.length cp) := fun o => (World.cell?_alloc_lt w5 o _ (HT5.out.lt.2)).trans x5; clear ho5 hb5)
        | (refine step_app1c w5 olElem (by rfl) (.tmp 28) (.tmp 34) (by rfl) base (.slice Ap ps.length cp) ps.length (olCells ps) (by rfl) HT5.out.rq #[.int .i64 3, .string n, .slice A5 l2 c5, .int .i64 0, .slice none 0 0, .int .i64 0, .int .u8 0] (by rfl) (by rfl) (by intro u hu; simp only [List.mem_cons, List.not_mem_nil, or_false] at hu; rcases hu with rfl | rfl | rfl | rfl | rfl | rfl | rfl <;> rfl) (by unfold maxLen; omega) (by omega) (Nat.le_trans HBA.out HB5.out.size) ?_; intro A6 c6 w6 hA; have HA := Lib.hid hA; have hq6 := (Mod.of_app hA).keep HT5.out.bq (fun e => by have := (HT5.out.rq.lt q e).1; have := HT.out.lo; omega); have x6 : w6.cell? ⟨q, 0, none⟩ = some (.slice Ap ps.length cp) := cell_of_row _ _ 0 _ _ _ hq6; have f6 : w6.frozen? ⟨q, 0, none⟩ = false := box_free hq6 0; clear hA hq6))
      all_goals
        go_wp2
        go_end0
        obtain rfl : y.data.length = l2 := HL2.out
        exact ⟨rfl, by rw [HP.out]; exact DPost.put ⟨3, n, y.data, A5, c5⟩ HT.out HR.out HB5.out (Keeps.of_own HO5.out (HT2.out.low (Nat.lt_of_lt_of_le HR.out HBX.out.size))) (own_capF HO5.out) HA.out⟩
end Go.Proofs.YtfnkbpcimbldbaaDoor
/- Layer 38: plan.Diff. -/
namespace Go.Proofs.YtfnkbpcimbldbaaDoor
open Go.RowKit

theorem get_key (l : List Fi) (s : ByteArray) : getK (l.map Fi.key) s = (findK Fi.nm l s).map Fi.data := by
  unfold getK findK
  rw [List.find?_map, Option.map_map]
  rfl
theorem gone_flat (b : List Fi) : ∀ U : List ByteArray, U.flatMap (fun n => goneX n (findK Fi.nm b n)) = (U.filter fun n => (getK (b.map Fi.key) n).isNone).map fun n => ((11 : Int), n, ([] : List UInt8))
  | [] => rfl
  | n :: U => by
    rw [List.flatMap_cons, gone_flat b U, List.filter_cons, get_key]
    cases findK Fi.nm b n with
    | none => rfl
    | some f => rfl
theorem put_flat (a b : List Fi) : ∀ U : List ByteArray, U.flatMap (fun n => putX n (findK Fi.nm a n) (findK Fi.nm b n)) = (U.filterMap (putStep (a.map Fi.key) (b.map Fi.key))).map fun x => ((3 : Int), x.1, x.2)
  | [] => rfl
  | n :: U => by
    rw [List.flatMap_cons, put_flat a b U, List.filterMap_cons]
    unfold putStep
    rw [get_key, get_key]
    cases findK Fi.nm b n with
    | none => rfl
    | some f =>
      show (if (findK Fi.nm a n).map Fi.data = some f.data then [] else [((3 : Int), n, f.data)]) ++ _ = _
      by_cases h : (findK Fi.nm a n).map Fi.data = some f.data
      · rw [if_pos h]
        simp only [Option.map_some, if_pos h]
        rfl
      · rw [if_neg h]
        simp only [Option.map_some, if_neg h]
        rfl
theorem olCells_one (os : List OL) : ∀ u ∈ olCells os, u.oneCell' = true := fun u hu => by
  unfold olCells at hu
  rw [List.mem_flatten] at hu
  obtain ⟨l, hl, hul⟩ := hu
  obtain ⟨f, _, rfl⟩ := List.mem_map.1 hl
  unfold OL.cells at hul
  simp only [List.mem_cons, List.not_mem_nil, or_false] at hul
  rcases hul with rfl | rfl | rfl | rfl | rfl | rfl | rfl <;> rfl
theorem olCells_app (l m : List OL) : olCells (l ++ m) = olCells l ++ olCells m := by unfold olCells; simp
/-- Steps in memory. -/
structure Ops (w : World) (B : Nat) (A : Option Addr) (os : List OL) : Prop where
  row : Cells w B A (olCells os)
  each : ∀ o ∈ os, Bytes w B o.ad o.data ∧ o.data.length ≤ o.cp
theorem DPost.comp {w w1 w2 : World} {base p q r : Nat} {Ag Ag' : Option Addr} {cg cg' : Nat} {gs gx : List OL} {Ap Ap' : Option Addr} {cp cp' : Nat} {ps px : List OL} {x2 y2 : List PO}
    (h : TPost w w1 base p q r 26 26 49 49 7 7 (.slice Ag gs.length cg) (.slice Ap ps.length cp) (.slice Ag' (gs ++ gx).length cg') (.slice Ap' (ps ++ px).length cp') (gs ++ gx).length (ps ++ px).length (olCells (gs ++ gx)) (olCells (ps ++ px)))
    (hg : ∀ o ∈ gx, o.data = []) (hp : ∀ o ∈ px, Keeps w1 (twoS p q r (.slice Ag' (gs ++ gx).length cg') (.slice Ap' (ps ++ px).length cp')) o.ad o.data ∧ o.data.length ≤ o.cp)
    (k : DPost w1 base p q r Ag' cg' (gs ++ gx) Ap' cp' (ps ++ px) w2 x2 y2) : DPost w base p q r Ag cg gs Ap cp ps w2 (gx.map OL.po ++ x2) (px.map OL.po ++ y2) := by
  obtain ⟨A1, c1, g1, A2, c2, p1, ht, rfl, rfl, k1, k2⟩ := k
  refine ⟨A1, c1, gx ++ g1, A2, c2, px ++ p1, ?_, by rw [List.map_append], by rw [List.map_append], ?_, ?_⟩
  · rw [← List.append_assoc, ← List.append_assoc]
    exact h.trans ht
  · intro o ho
    rcases List.mem_append.1 ho with ho | ho
    · exact hg o ho
    · exact k1 o ho
  · intro o ho
    rw [← List.append_assoc, ← List.append_assoc]
    rcases List.mem_append.1 ho with ho | ho
    · exact ⟨(hp o ho).1.on ht, (hp o ho).2⟩
    · exact k2 o ho
theorem DPost.third {w w1 w2 : World} {base p q r : Nat} {Ag : Option Addr} {cg : Nat} {gs : List OL} {Ap : Option Addr} {cp : Nat} {ps : List OL} {x y : List PO} (h : DPost w base p q r Ag cg gs Ap cp ps w1 x y) (hm : Mod (oneB r) w1 w2) (hr : w.heap.size ≤ r) : DPost w base p q r Ag cg gs Ap cp ps w2 x y := by
  obtain ⟨A1, c1, g1, A2, c2, p1, ht, h1, h2, k1, k2⟩ := h
  exact ⟨A1, c1, g1, A2, c2, p1, ht.third hm hr, h1, h2, k1, fun o ho => ⟨(k2 o ho).1.mod hm (fun k e => .inr (.inr (.inl e))), (k2 o ho).2⟩⟩
theorem two_start {w : World} {p q r : Nat} {tp tq ep eq : TypeId} {kp kq : Nat} (hp : w.heap[p]? = some (.cells #[.slice none 0 0] tp (0, 0))) (hq : w.heap[q]? = some (.cells #[.slice none 0 0] tq (0, 0))) (hne : p ≠ q) (hr : w.heap.size ≤ r) :
    TwoR w w.heap.size p q r tp tq ep eq kp kq (.slice none 0 0) 0 [] (.slice none 0 0) 0 [] :=
  ⟨hp, hq, World.ownsRow_nil _ _ _ _, World.ownsRow_nil _ _ _ _, ⟨(Array.getElem?_eq_some_iff.1 hp).1, (Array.getElem?_eq_some_iff.1 hq).1, hne, hr⟩, fun k hk => (by cases hk), fun k hk => (by cases hk)⟩
theorem goneX_len (n : ByteArray) (t : Option Fi) : (goneX n t).length ≤ 1 := by
  cases t <;> simp [goneX]
theorem putX_len (n : ByteArray) (f t : Option Fi) : (putX n f t).length ≤ 1 := by
  cases t with
  | none => simp [putX]
  | some d => unfold putX; dsimp only; split <;> simp
theorem flat_len {α β : Type} (f : α → List β) (h : ∀ x, (f x).length ≤ 1) : ∀ l : List α, (l.flatMap f).length ≤ l.length
  | [] => Nat.le_refl _
  | x :: l => by
    rw [List.flatMap_cons, List.length_append, List.length_cons]
    have := h x
    have := flat_len f h l
    omega
theorem flat_take {α β : Type} (f : α → List β) {U : List α} {k : Nat} {n : α} (h : U[k]? = some n) : (U.take (k + 1)).flatMap f = (U.take k).flatMap f ++ f n := by
  rw [List.take_add_one, h, List.flatMap_append]
  simp
theorem dataO_len {l : List Fi} {n : ByteArray} (h : ∀ f ∈ l, f.data.length ≤ 1000000) : (dataO (findK Fi.nm l n)).length ≤ 1000000 := by
  cases hf : findK Fi.nm l n with
  | none => exact Nat.zero_le _
  | some f => exact h f (findK_at hf).2
theorem bytesO_find {w w1 : World} {B : Nat} {A : Option Addr} {l : List Fi} {n : ByteArray} (h : Files w B A l) (hb : Below B w w1) : BytesO w1 B (findK Fi.nm l n) := fun f hf => (h.each f (findK_at hf).2).1.below hb (Nat.le_refl _)

set_option maxRecDepth 100000 in
set_option maxHeartbeats 2000000 in
theorem diff_any (A1 A2 : Option Addr) (l1 c1 l2 c2 : Nat) (a b : List Fi) (B : Nat) (w : World) (hl1 : a.length = l1) (hl2 : b.length = l2) (hm1 : l1 ≤ 100000) (hm2 : l2 ≤ 100000) (hc1 : l1 ≤ c1 ∧ 0 ≤ c1) (hc2 : l2 ≤ c2 ∧ 0 ≤ c2) (ha : Ris Fi.nm a) (hb : Ris Fi.nm b) (hfa : Files w B A1 a) (hfb : Files w B A2 b)
    (hdb : ∀ f ∈ b, f.data.length ≤ 1000000) (hB : B ≤ w.heap.size) :
    Calls Tryd.prog 13 #[.slice A1 l1 c1, .slice A2 l2 c2] w fun e w' => ∃ A' c' os, e = .returned (.slice A' os.length c') ∧ os.map OL.po = diffL (a.map Fi.key) (b.map Fi.key) ∧ Ops w' w'.heap.size A' os ∧ Below w.heap.size w w' := by
  obtain ⟨W1, hW1⟩ : ∃ W1, w.alloc (.cells #[.slice none 0 0] 26) = W1 := ⟨_, rfl⟩
  obtain ⟨W2, hW2⟩ : ∃ W2, W1.alloc (.cells #[.slice none 0 0] 26) = W2 := ⟨_, rfl⟩
  obtain ⟨W3, hW3⟩ : ∃ W3, W2.alloc (.cells #[.slice A1 l1 c1, .slice A2 l2 c2] 22) = W3 := ⟨_, rfl⟩
  have z1 : W1.heap.size = w.heap.size + 1 := by rw [← hW1, World.size_alloc]
  have z2 : W2.heap.size = w.heap.size + 1 + 1 := by rw [← hW2, World.size_alloc, z1]
  have z3 : W3.heap.size = w.heap.size + 1 + 1 + 1 := by rw [← hW3, World.size_alloc, z2]
  have hb3 : Below w.heap.size w W3 := by rw [← hW3, ← hW2, ← hW1]; exact (((Below.refl _ w).alloc (Nat.le_refl _) _).alloc (by simp) _).alloc (by rw [World.size_alloc, World.size_alloc]; omega) _
  have p3 : W3.heap[w.heap.size]? = some (.cells #[.slice none 0 0] 26 (0, 0)) := by
    rw [← hW3]
    refine (Below.heap_alloc W2 _ _ (by omega)).trans ?_
    rw [← hW2]
    refine (Below.heap_alloc W1 _ _ (by omega)).trans ?_
    rw [← hW1]
    exact heap_alloc_new w _
  have q3 : W3.heap[w.heap.size + 1]? = some (.cells #[.slice none 0 0] 26 (0, 0)) := by
    rw [← hW3]
    refine (Below.heap_alloc W2 _ _ (by omega)).trans ?_
    rw [← hW2, ← z1]
    exact heap_alloc_new W1 _
  have r3 : W3.heap[W2.heap.size]? = some (.cells #[.slice A1 l1 c1, .slice A2 l2 c2] 22 (0, 0)) := by rw [← hW3]; exact heap_alloc_new W2 _
  obtain ⟨U, hUd⟩ : ∃ U, uni2 (a.map Fi.key) (b.map Fi.key) = U := ⟨_, rfl⟩
  have hUr : Ris id U := by rw [← hUd]; exact uni_ris _
  have hUm2 : ∀ s, s ∈ U ↔ s ∈ (a.map Fi.key).map Prod.fst ∨ s ∈ (b.map Fi.key).map Prod.fst := by rw [← hUd]; exact uni2_mem _ _
  have hUl : U.length ≤ 200000 := by
    rw [← hUd]
    refine Nat.le_trans (uni_len _) ?_
    rw [List.length_append, List.length_map, List.length_map, List.length_map, List.length_map]
    omega
  have key : ∀ {l : List Fi} {s : ByteArray}, s ∈ (l.map Fi.key).map Prod.fst ↔ ∃ x ∈ l, x.nm = s := fun {l s} => by
    rw [List.map_map, List.mem_map]
    rfl
  have HE := Lib.hid (each_any 25 B W3.heap.size W2.heap.size w.heap.size (w.heap.size + 1) 2 2 (fun r k V => DPost W3 W3.heap.size w.heap.size (w.heap.size + 1) r none 0 [] none 0 [] V ((U.take k).flatMap fun n => goneX n (findK Fi.nm b n)) ((U.take k).flatMap fun n => putX n (findK Fi.nm a n) (findK Fi.nm b n)))
    [⟨A1, c1, a⟩, ⟨A2, c2, b⟩] U W3 (fun _ _ => rfl) rfl (by omega) (by omega)
    (fun _ => ⟨W2.heap.size, 0, rfl, by omega, fun j u hj => by
      rw [Nat.zero_add, cell_of_row _ _ _ _ _ _ r3]
      rw [← hl1, ← hl2]
      simpa [FL.val] using hj⟩) (Nat.le_refl _)
    (by intro q hq; rcases List.mem_cons.1 hq with rfl | hq
        · exact hfa.below hb3 hB
        · rw [List.mem_singleton] at hq; subst hq; exact hfb.below hb3 hB)
    (by intro q hq; rcases List.mem_cons.1 hq with rfl | hq
        · exact ⟨by show a.length ≤ _; omega, by show a.length ≤ c1; omega, hc1.2⟩
        · rw [List.mem_singleton] at hq; subst hq; exact ⟨by show b.length ≤ _; omega, by show b.length ≤ c2; omega, hc2.2⟩)
    (by omega)
    (by intro q hq; rcases List.mem_cons.1 hq with rfl | hq
        · exact ha
        · rw [List.mem_singleton] at hq; subst hq; exact hb)
    hUr
    (by intro s
        rw [hUm2, key, key]
        constructor
        · rintro (h | h)
          · exact ⟨_, List.mem_cons_self .., h⟩
          · exact ⟨_, List.mem_cons_of_mem _ (List.mem_cons_self ..), h⟩
        · rintro ⟨q, hq, h⟩
          rcases List.mem_cons.1 hq with rfl | hq
          · exact .inl h
          · rw [List.mem_singleton] at hq; subst hq; exact .inr h)
    (fun r w1 hb1 hr => by
      have h0 := two_start (ep := 49) (eq := 49) (kp := 7) (kq := 7) p3 q3 (by omega) hr
      exact ⟨none, 0, [], none, 0, [], TPost.below h0 hb1, rfl, rfl, (by intro o ho; cases ho), (by intro o ho; cases ho)⟩)
    (fun r k w1 w2 hI hm hr => hI.third hm hr)
    (fun r k n h w1 hn hI hbw hr hrl hH => by
      obtain ⟨Ag, cg, gx, Ap, cp, px, ht, e1, e2, k1, k2⟩ := hI
      have lx : gx.length ≤ 200000 := by
        have h1 := congrArg List.length e1
        rw [List.length_map] at h1
        rw [h1]
        exact Nat.le_trans (flat_len _ (fun n => goneX_len n _) _) (Nat.le_trans (by rw [List.length_take]; omega) hUl)
      have ly : px.length ≤ 200000 := by
        have h1 := congrArg List.length e2
        rw [List.length_map] at h1
        rw [h1]
        exact Nat.le_trans (flat_len _ (fun n => putX_len n _ _) _) (Nat.le_trans (by rw [List.length_take]; omega) hUl)
      have hz := ht.mod.size
      refine (diffCl_any W3.heap.size B w.heap.size (w.heap.size + 1) r h n (findK Fi.nm a n) (findK Fi.nm b n) Ag Ap cg cp ([] ++ gx) ([] ++ px) w1 ht.two hrl hH (bytesO_find (hfa.below hb3 hB) hbw) (bytesO_find (hfb.below hb3 hB) hbw) (dataO_len hdb) (by rw [List.nil_append]; omega) (by rw [List.nil_append]; omega) (Nat.le_trans (Nat.le_trans hB hb3.size) hz) hz).mono ?_
      rintro e w2 ⟨rfl, hp⟩
      have hc := DPost.comp ht k1 k2 hp
      rw [e1, e2, ← flat_take _ hn, ← flat_take _ hn] at hc
      refine ⟨rfl, hc, ?_⟩
      obtain ⟨_, _, _, _, _, _, hx, _⟩ := hp
      exact hx.low.mono (fun j hj => ⟨by rcases hj.1 with h1 | h1 | h1 <;> omega, hj.2⟩)))
  have HB3 := Lib.hid hb3
  have HG : Hid ((U.flatMap fun n => goneX n (findK Fi.nm b n)) ++ (U.flatMap fun n => putX n (findK Fi.nm a n) (findK Fi.nm b n)) = diffL (a.map Fi.key) (b.map Fi.key)) := by
    show _ = _
    rw [gone_flat, put_flat, gone_uni (ris_key.1 ha) hUr hUm2, put_uni (ris_key.1 hb) hUr hUm2]
    rfl
  have HL : Hid ((U.flatMap fun n => goneX n (findK Fi.nm b n)).length ≤ 200000 ∧ (U.flatMap fun n => putX n (findK Fi.nm a n) (findK Fi.nm b n)).length ≤ 200000) :=
    ⟨Nat.le_trans (flat_len _ (fun n => goneX_len n _) _) hUl, Nat.le_trans (flat_len _ (fun n => putX_len n _ _) _) hUl⟩
  rw [List.take_length, z2] at HE
  clear hl1 hl2 hm1 hm2 hc1 hc2 ha hb hfa hfb hdb hB hb3 p3 q3 r3 hUr hUm2 hUl key hUd
  go_enter Tryd.func13, Tryd.ntmps13
  go_wp2_with (first
    | (go_at_call 24; refine HE.out.mono ?_; rintro e w4 ⟨rfl, r, hr, Ag, cg, gx, Ap, cp, px, ht, e1, e2, k1, k2⟩; have HT := Lib.hid ht; have E1 := Lib.hid e1; have E2 := Lib.hid e2; have K1 := Lib.hid k1; have K2 := Lib.hid k2; have x4 : w4.cell? ⟨w.heap.size, 0, none⟩ = some (.slice Ag gx.length cg) := cell_of_row _ _ 0 _ _ _ ht.two.bp; have y4 : w4.cell? ⟨w.heap.size + 1, 0, none⟩ = some (.slice Ap px.length cp) := cell_of_row _ _ 0 _ _ _ ht.two.bq; have LX : gx.length ≤ 200000 := (by have h1 := congrArg List.length e1; rw [List.length_map] at h1; rw [h1]; exact HL.out.1); have LY : px.length ≤ 200000 := (by have h1 := congrArg List.length e2; rw [List.length_map] at h1; rw [h1]; exact HL.out.2); have HRQ : Hid (Cells w4 w4.heap.size Ap (olCells px)) := cells_of_ownF ht.two.rq; clear hr ht e1 e2 k1 k2)
    | (at_builtin; go_must (skip; refine wpList_app w4 olElem rfl (.tmp 12) (.tmp 13) rfl W3.heap.size (.slice Ag gx.length cg) gx.length (olCells gx) rfl HT.out.two.rp w4.heap.size Ap px.length cp (olCells px) rfl (ol_len px) HRQ.out (olCells_one px) (by unfold maxLen; omega) (by omega) HT.out.mod.size ?_; intro A5 c5 w5 hA; have HA := Lib.hid hA; clear hA)))
  go_ret
  have ho := HA.out.own
  rw [← olCells_app] at ho
  have hb4 : Below w.heap.size w w4 := HT.out.low.below HB3.out HB3.out.size (fun k hk => by have := HB3.out.size; rcases hk.1 with h | h | h <;> omega)
  refine ⟨A5, c5, gx ++ px, by rw [List.length_append]; rfl, by rw [List.map_append, E1.out, E2.out, HG.out], ⟨cells_of_ownF ho, fun o ho => ?_⟩, HA.out.below hb4 (Nat.le_trans HB3.out.size HT.out.mod.size) (fun k hk => by have := (HT.out.two.rp.lt k hk).1; have := HB3.out.size; omega)⟩
  rcases List.mem_append.1 ho with ho | ho
  · have h0 := K1.out o ho
    exact ⟨fun hp => absurd hp (by rw [h0]; unfold byteCells; simp), by rw [h0]; exact Nat.zero_le _⟩
  · obtain ⟨h1, h2⟩ := K2.out o ho
    exact ⟨(h1.mod (Mod.of_app HA.out) (fun k hk => .inr (.inr (.inr (.inl hk))))).bytes, h2⟩
end Go.Proofs.YtfnkbpcimbldbaaDoor
