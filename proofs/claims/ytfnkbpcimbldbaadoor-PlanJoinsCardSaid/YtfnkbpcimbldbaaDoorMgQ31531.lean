/- Layer 38: what Merge does with a name. -/
import Derived.Test.YtfnkbpcimbldbaaDoorMgQ31529
import Derived.Deep.CutBlock
namespace Go.Proofs.YtfnkbpcimbldbaaDoor
open Go.RowKit

theorem strElemP : Elem Tryd.prog 40 9 (.string ⟨#[]⟩) 1 16 := Elem.of Tryd.underlying40 (by kernel_rfl) (by kernel_rfl) (by omega)
/-- What is kept of a name. -/
def keptO (o a b : Option Fi) : Option Fi := if a.map Fi.data = b.map Fi.data ∨ b.map Fi.data = o.map Fi.data then a else if a.map Fi.data = o.map Fi.data then b else o
def clashO (n : ByteArray) (o a b : Option Fi) : List ByteArray := if a.map Fi.data = b.map Fi.data ∨ b.map Fi.data = o.map Fi.data then [] else if a.map Fi.data = o.map Fi.data then [] else [n]
def keptX (n : ByteArray) : Option Fi → List (ByteArray × List UInt8)
  | none => []
  | some f => [(n, f.data)]
def nmV (cs : List ByteArray) : List Value := cs.map Value.string
abbrev MTwo (w : World) (base p q r : Nat) (Ac : Option Addr) (cc : Nat) (cs : List ByteArray) (Al : Option Addr) (cl : Nat) (fs : List Fi) : Prop :=
  TwoR w base p q r 40 22 9 32 1 2 (.slice Ac cs.length cc) cs.length (nmV cs) (.slice Al fs.length cl) fs.length (fiCells fs)
abbrev MT (w w' : World) (base p q r : Nat) (Ac : Option Addr) (cc : Nat) (cs : List ByteArray) (Al : Option Addr) (cl : Nat) (fs : List Fi) (Ac' : Option Addr) (cc' : Nat) (cs' : List ByteArray) (Al' : Option Addr) (cl' : Nat) (fs' : List Fi) : Prop :=
  TPost w w' base p q r 40 22 9 32 1 2 (.slice Ac cs.length cc) (.slice Al fs.length cl) (.slice Ac' cs'.length cc') (.slice Al' fs'.length cl') cs'.length fs'.length (nmV cs') (fiCells fs')
/-- What the closure leaves. -/
def MPost (w : World) (base p q r : Nat) (Ac : Option Addr) (cc : Nat) (cs : List ByteArray) (Al : Option Addr) (cl : Nat) (fs : List Fi) (w' : World) (x : List ByteArray) (y : List (ByteArray × List UInt8)) : Prop :=
  ∃ Ac' cc' Al' cl' px, MT w w' base p q r Ac cc cs Al cl fs Ac' cc' (cs ++ x) Al' cl' (fs ++ px) ∧ px.map Fi.key = y ∧ ∀ f ∈ px, Keeps w' (twoS p q r (.slice Ac' (cs ++ x).length cc') (.slice Al' (fs ++ px).length cl')) f.ad f.data ∧ f.data.length ≤ f.cp
section
variable {w V w7 : World} {base p q r : Nat} {Ac Ac' A3 : Option Addr} {cc cc' c3 : Nat} {cs x : List ByteArray} {Al : Option Addr} {cl : Nat} {fs : List Fi}
theorem MPost.of (h : MT w V base p q r Ac cc cs Al cl fs Ac' cc' (cs ++ x) Al cl fs) : MPost w base p q r Ac cc cs Al cl fs V x [] := by
  refine ⟨Ac', cc', Al, cl, [], ?_, rfl, (by intro o ho; cases ho)⟩
  rw [List.append_nil]
  exact h
theorem MT.clash (n : ByteArray) (hT : MTwo w base p q r Ac cc cs Al cl fs) (hr : r < w.heap.size) (hb : Below w.heap.size w V)
    (hA : App V base 9 1 (.slice Ac cs.length cc) (cs.length + 1) (nmV cs ++ [.string n]) w7 (.slice A3 (cs.length + 1) c3)) : MT w (w7.setCell ⟨p, 0, none⟩ (.slice A3 (cs.length + 1) c3)) base p q r Ac cc cs Al cl fs A3 c3 (cs ++ [n]) Al cl fs := by
  have e1 : nmV (cs ++ [n]) = nmV cs ++ [.string n] := by unfold nmV; rw [List.map_append]; rfl
  unfold MT
  rw [e1, List.length_append]
  exact TPost.app hT hr hb hA
theorem MPost.put {V0 : World} (f : Fi) (h : MT w V0 base p q r Ac cc cs Al cl fs Ac' cc' (cs ++ x) Al cl fs) (hr : r < w.heap.size) (hb : Below V0.heap.size V0 V)
    (hk : Keeps V (twoS p q r (.slice Ac' (cs ++ x).length cc') (.slice Al fs.length cl)) f.ad f.data) (hc : f.data.length ≤ f.cp)
    (hA : App V base 32 2 (.slice Al fs.length cl) (fs.length + 1) (fiCells fs ++ f.cells) w7 (.slice A3 (fs.length + 1) c3)) : MPost w base p q r Ac cc cs Al cl fs (w7.setCell ⟨q, 0, none⟩ (.slice A3 (fs.length + 1) c3)) x [f.key] := by
  have hr0 := Nat.lt_of_lt_of_le hr h.mod.size
  have hrV := Nat.lt_of_lt_of_le hr0 hb.size
  have t1 := TPost.app h.two.swap hr0 hb hA
  have t2 := TPost.app (h.two.keepN hb).swap hrV (Below.refl _ _) hA
  refine ⟨Ac', cc', A3, c3, [f], ?_, rfl, ?_⟩
  · unfold MT
    rw [fiCells_snoc, @List.length_append _ fs]
    exact h.trans t1.swap
  · intro o' ho'
    rw [List.mem_singleton] at ho'
    subst ho'
    rw [@List.length_append _ fs]
    exact ⟨hk.on t2.swap, hc⟩
end
/-- Three boxes behind a world. -/
def Box3 (w : World) (t : TypeId) (C D E : Array Value) (i j k : Nat) (V : World) : Prop := Below w.heap.size w V ∧ V.heap[i]? = some (.cells C t (0, 0)) ∧ V.heap[j]? = some (.cells D t (0, 0)) ∧ V.heap[k]? = some (.cells E t (0, 0))
theorem box3_a (w : World) (t : TypeId) (C D E : Array Value) : Box3 w t C D E w.heap.size (w.heap.size + 1) (w.heap.size + 1 + 1) (((w.alloc (.cells C t)).alloc (.cells D t)).alloc (.cells E t)).drew := by
  refine ⟨Below.drewN ((((Below.refl _ w).alloc (Nat.le_refl _) _).alloc (by simp) _).alloc (by rw [World.size_alloc, World.size_alloc]; omega) _) 1, ?_, ?_, ?_⟩
  · exact ((Below.heap_alloc _ _ _ (by rw [World.size_alloc, World.size_alloc]; omega)).trans (Below.heap_alloc _ _ _ (by simp))).trans (heap_alloc_new w _)
  · have h := heap_alloc_new (w.alloc (.cells C t)) (.cells D t)
    rw [World.size_alloc] at h
    exact (Below.heap_alloc _ _ _ (by simp)).trans h
  · have h := heap_alloc_new ((w.alloc (.cells C t)).alloc (.cells D t)) (.cells E t)
    rw [World.size_alloc, World.size_alloc] at h
    exact h
theorem box3_b (w : World) (t : TypeId) (C D E : Array Value) : Box3 w t C D E w.heap.size (w.heap.size + 1 + 1) (w.heap.size + 1) (((w.alloc (.cells C t)).alloc (.cells E t)).alloc (.cells D t)).drew := by
  obtain ⟨h1, h2, h3, h4⟩ := box3_a w t C E D
  exact ⟨h1, h2, h4, h3⟩
theorem box3_c (w : World) (t : TypeId) (C D E : Array Value) : Box3 w t C D E (w.heap.size + 1) w.heap.size (w.heap.size + 1 + 1) (((w.alloc (.cells D t)).alloc (.cells C t)).alloc (.cells E t)).drew := by
  obtain ⟨h1, h2, h3, h4⟩ := box3_a w t D C E
  exact ⟨h1, h3, h2, h4⟩
theorem box3_d (w : World) (t : TypeId) (C D E : Array Value) : Box3 w t C D E (w.heap.size + 1) (w.heap.size + 1 + 1) w.heap.size (((w.alloc (.cells E t)).alloc (.cells C t)).alloc (.cells D t)).drew := by
  obtain ⟨h1, h2, h3, h4⟩ := box3_a w t E C D
  exact ⟨h1, h3, h4, h2⟩
theorem box3_e (w : World) (t : TypeId) (C D E : Array Value) : Box3 w t C D E (w.heap.size + 1 + 1) w.heap.size (w.heap.size + 1) (((w.alloc (.cells D t)).alloc (.cells E t)).alloc (.cells C t)).drew := by
  obtain ⟨h1, h2, h3, h4⟩ := box3_a w t D E C
  exact ⟨h1, h4, h2, h3⟩
theorem box3_f (w : World) (t : TypeId) (C D E : Array Value) : Box3 w t C D E (w.heap.size + 1 + 1) (w.heap.size + 1) w.heap.size (((w.alloc (.cells E t)).alloc (.cells D t)).alloc (.cells C t)).drew := by
  obtain ⟨h1, h2, h3, h4⟩ := box3_a w t E D C
  exact ⟨h1, h4, h3, h2⟩
theorem setm {V : World} {m : Nat} {t : TypeId} {x0 y0 x y : Value} (h : V.heap[m]? = some (.cells #[x0, y0] t (0, 0))) : ((V.setCell ⟨m, 0, none⟩ x).setCell ⟨m, 1, none⟩ y).heap[m]? = some (.cells #[x, y] t (0, 0)) := by
  rw [heap_setCell_same _ m 1 _ _ _ (heap_setCell_same V m 0 _ _ _ h)]
  rfl
theorem below_setm {w V : World} {m : Nat} (h : Below w.heap.size w V) (hm : w.heap.size ≤ m) (x y : Value) : Below w.heap.size w ((V.setCell ⟨m, 0, none⟩ x).setCell ⟨m, 1, none⟩ y) :=
  (((Mod.refl (oneB m) V).set ⟨m, 0, none⟩ x (.inl rfl)).set ⟨m, 1, none⟩ y (.inl rfl)).below h h.size (fun k e => by have e : k = m := e; omega)
theorem MT.kept {w V : World} {base p q r : Nat} {Ac : Option Addr} {cc : Nat} {cs : List ByteArray} {Al : Option Addr} {cl : Nat} {fs : List Fi} (hT : MTwo w base p q r Ac cc cs Al cl fs) (hb : Below w.heap.size w V) : MT w V base p q r Ac cc cs Al cl fs Ac cc (cs ++ []) Al cl fs := by
  unfold MT
  rw [List.append_nil]
  exact TPost.below hT hb
def heldA3 (o : Option Fi) : Array Value := #[heldA o, .bool o.isSome]
set_option maxRecDepth 100000 in
set_option maxHeartbeats 8000000 in
theorem mergeCl_any (base B p q r h : Nat) (n : ByteArray) (o a b : Option Fi) (Ac Al : Option Addr) (cc cl : Nat) (cs : List ByteArray) (fs : List Fi) (w : World) (hT : MTwo w base p q r Ac cc cs Al cl fs) (hr : r < w.heap.size) (hH : HeldB w h 3 [o, a, b]) (ho : BytesO w B o) (ha : BytesO w B a) (hb : BytesO w B b)
    (hlo : (dataO o).length ≤ 1000000) (hla : (dataO a).length ≤ 1000000) (hlb : (dataO b).length ≤ 1000000) (hg : cs.length ≤ 1000000) (hp : fs.length ≤ 1000000) (hB : B ≤ w.heap.size) (hbp : B ≤ base ∧ B ≤ p ∧ B ≤ q) (hba : base ≤ w.heap.size) :
    Calls Tryd.prog 35 #[.string n, .slice (some ⟨h, 0, none⟩) 3 3, .pointer (some ⟨p, 0, none⟩), .pointer (some ⟨q, 0, none⟩)] w fun e w' => e = .returned (.tuple #[]) ∧
      MPost w base p q r Ac cc cs Al cl fs w' (clashO n o a b) (keptX n (keptO o a b)) := by
  have HSM : Hid (∀ V o1 o2, Below w.heap.size w V → (o1 = o ∨ o1 = a ∨ o1 = b) → (o2 = o ∨ o2 = a ∨ o2 = b) → Calls Tryd.prog 26 #[heldV o1, heldV o2] V fun e w' => e = .returned (.bool (decide (o1.map Fi.data = o2.map Fi.data))) ∧ Below V.heap.size V w') := fun V o1 o2 hV h1 h2 =>
    same_any o1 o2 B V (fun x hx => by rcases h1 with rfl | rfl | rfl; exact (ho x hx).below hV hB; exact (ha x hx).below hV hB; exact (hb x hx).below hV hB) (fun x hx => by rcases h2 with rfl | rfl | rfl; exact (ho x hx).below hV hB; exact (ha x hx).below hV hB; exact (hb x hx).below hV hB) (Nat.le_trans hB hV.size)
  have HKB : Hid (BytesO w B (keptO o a b) ∧ (dataO (keptO o a b)).length ≤ 1000000) := by
    show _ ∧ _
    unfold keptO
    split
    · exact ⟨ha, hla⟩
    · split
      · exact ⟨hb, hlb⟩
      · exact ⟨ho, hlo⟩
  obtain ⟨h0, h1⟩ := hH.at (i := 0) (o := o) rfl
  obtain ⟨h2, h3⟩ := hH.at (i := 1) (o := a) rfl
  obtain ⟨h4, h5⟩ := hH.at (i := 2) (o := b) rfl
  rw [Nat.zero_mul] at h0 h1
  rw [Nat.one_mul] at h2 h3
  rw [show 2 * 2 = 4 from rfl] at h4 h5
  obtain ⟨A1, c1, ha1, _⟩ := heldA_form o
  obtain ⟨A2, c2, ha2, _⟩ := heldA_form a
  obtain ⟨A3, c3, ha3, _⟩ := heldA_form b
  obtain ⟨l1, hl1⟩ : ∃ l, (dataO o).length = l := ⟨_, rfl⟩
  obtain ⟨l2, hl2⟩ : ∃ l, (dataO a).length = l := ⟨_, rfl⟩
  obtain ⟨l3, hl3⟩ : ∃ l, (dataO b).length = l := ⟨_, rfl⟩
  obtain ⟨t1, ht1⟩ : ∃ t, o.isSome = t := ⟨_, rfl⟩
  obtain ⟨t2, ht2⟩ : ∃ t, a.isSome = t := ⟨_, rfl⟩
  obtain ⟨t3, ht3⟩ : ∃ t, b.isSome = t := ⟨_, rfl⟩
  rw [hl1] at ha1
  rw [hl2] at ha2
  rw [hl3] at ha3
  have E1 : Hid (heldV o = .agg #[.slice A1 l1 c1, .bool t1]) := by show _ = _; unfold heldV; rw [ha1, ht1]
  have E2 : Hid (heldV a = .agg #[.slice A2 l2 c2, .bool t2]) := by show _ = _; unfold heldV; rw [ha2, ht2]
  have E3 : Hid (heldV b = .agg #[.slice A3 l3 c3, .bool t3]) := by show _ = _; unfold heldV; rw [ha3, ht3]
  have F1 : Hid (heldA3 o = #[.slice A1 l1 c1, .bool t1]) := by show _ = _; unfold heldA3; rw [ha1, ht1]
  have F2 : Hid (heldA3 a = #[.slice A2 l2 c2, .bool t2]) := by show _ = _; unfold heldA3; rw [ha2, ht2]
  have F3 : Hid (heldA3 b = #[.slice A3 l3 c3, .bool t3]) := by show _ = _; unfold heldA3; rw [ha3, ht3]
  rw [ha1] at h0
  rw [ht1] at h1
  rw [ha2] at h2
  rw [ht2] at h3
  rw [ha3] at h4
  rw [ht3] at h5
  obtain ⟨hh, hhb⟩ : ∃ cur, w.heap[h]? = some (.cells cur 54 (0, 0)) := by obtain ⟨cur, hb, _⟩ := hH; exact ⟨cur, hb⟩
  have hhl := (Array.getElem?_eq_some_iff.1 hhb).1
  have al : ∀ (k : Nat) (v : Value), w.cell? ⟨h, k, none⟩ = some v → (∀ o, (w.alloc o).cell? ⟨h, k, none⟩ = some v) ∧ (∀ o o2, ((w.alloc o).alloc o2).cell? ⟨h, k, none⟩ = some v) ∧ ∀ o o2 o3, (((w.alloc o).alloc o2).alloc o3).cell? ⟨h, k, none⟩ = some v := fun k v hv => by
    have g1 : ∀ o, (w.alloc o).cell? ⟨h, k, none⟩ = some v := fun o => (World.cell?_alloc_lt w o _ hhl).trans hv
    have g2 : ∀ o o2, ((w.alloc o).alloc o2).cell? ⟨h, k, none⟩ = some v := fun o o2 => (World.cell?_alloc_lt _ o2 _ (by rw [World.size_alloc]; exact Nat.lt_succ_of_lt hhl)).trans (g1 o)
    exact ⟨g1, g2, fun o o2 o3 => (World.cell?_alloc_lt _ o3 _ (by rw [World.size_alloc, World.size_alloc]; exact Nat.lt_succ_of_lt (Nat.lt_succ_of_lt hhl))).trans (g2 o o2)⟩
  obtain ⟨a0, b0, d0⟩ := al _ _ h0
  obtain ⟨a1, b1, d1⟩ := al _ _ h1
  obtain ⟨a2, b2, d2⟩ := al _ _ h2
  obtain ⟨a3, b3, d3⟩ := al _ _ h3
  obtain ⟨a4, b4, d4⟩ := al _ _ h4
  obtain ⟨a5, b5, d5⟩ := al _ _ h5
  have HT := Lib.hid hT
  have HB := Lib.hid hB
  have HR := Lib.hid hr
  have HBA := Lib.hid hba
  have HBP := Lib.hid hbp
  clear al hhb hhl hH ho ha hb ha1 ha2 ha3 hl1 hl2 hl3 ht1 ht2 ht3 hT hB hr hba hlo hla hlb hbp
  go_enter Tryd.func35, Tryd.ntmps35
  go_upto_region 0 with fail
  go_cut [6, 7, 8] from 10 to 18 (fun x y z wx => ∃ i j k, x = .pointer (some ⟨i, 0, none⟩) ∧ y = .pointer (some ⟨j, 0, none⟩) ∧ z = .pointer (some ⟨k, 0, none⟩) ∧ Box3 w 54 #[.slice A1 l1 c1, .bool t1] #[.slice A2 l2 c2, .bool t2] #[.slice A3 l3 c3, .bool t3] i j k wx)
  case first =>
    go_region
    all_goals
      go_wp2_with fail
      go_meet
      case rel => first | exact ⟨_, _, _, rfl, rfl, rfl, box3_a _ _ _ _ _⟩ | exact ⟨_, _, _, rfl, rfl, rfl, box3_b _ _ _ _ _⟩ | exact ⟨_, _, _, rfl, rfl, rfl, box3_c _ _ _ _ _⟩ | exact ⟨_, _, _, rfl, rfl, rfl, box3_d _ _ _ _ _⟩ | exact ⟨_, _, _, rfl, rfl, rfl, box3_e _ _ _ _ _⟩ | exact ⟨_, _, _, rfl, rfl, rfl, box3_f _ _ _ _ _⟩
  case rest =>
  obtain ⟨i, j, k, rfl, rfl, rfl, hx⟩ := hcut
  clear h0 h1 h2 h3 h4 h5 a0 a1 a2 a3 a4 a5 b0 b1 b2 b3 b4 b5 d0 d1 d2 d3 d4 d5
  obtain ⟨hbw, bi, bj, bk⟩ := hx
  have HBW := Lib.hid hbw
  have e0 : wc.cell? ⟨i, 0, none⟩ = some (.slice A1 l1 c1) := cell_of_row _ _ 0 _ _ _ bi
  have e1 : wc.cell? ⟨i, 1, none⟩ = some (.bool t1) := cell_of_row _ _ 1 _ _ _ bi
  go_upto_block 0 with fail
  obtain ⟨m, hm⟩ : ∃ m, wc.heap.size = m := ⟨_, rfl⟩
  obtain ⟨W, hW⟩ : ∃ W, wc.alloc (.cells #[.slice A1 l1 c1, .bool t1] 54) = W := ⟨_, rfl⟩
  have hbm : W.heap[m]? = some (.cells #[.slice A1 l1 c1, .bool t1] 54 (0, 0)) := by rw [← hW, ← hm]; exact heap_alloc_new wc _
  have hbW : Below wc.heap.size wc W := by rw [← hW]; exact (Below.refl _ wc).alloc (Nat.le_refl _) _
  have HWW : Hid (Below w.heap.size w W) := HBW.out.trans (hbW.mono HBW.out.size)
  have HMW : Hid (m < W.heap.size ∧ w.heap.size ≤ m) := ⟨(Array.getElem?_eq_some_iff.1 hbm).1, by rw [← hm]; exact HBW.out.size⟩
  have HCW : Hid (∀ V, Below W.heap.size W V → (V.cell? ⟨i, 0, none⟩ = some (.slice A1 l1 c1) ∧ V.cell? ⟨i, 1, none⟩ = some (.bool t1)) ∧ (V.cell? ⟨j, 0, none⟩ = some (.slice A2 l2 c2) ∧ V.cell? ⟨j, 1, none⟩ = some (.bool t2)) ∧ (V.cell? ⟨k, 0, none⟩ = some (.slice A3 l3 c3) ∧ V.cell? ⟨k, 1, none⟩ = some (.bool t3)) ∧
      V.heap[m]? = some (.cells #[.slice A1 l1 c1, .bool t1] 54 (0, 0)) ∧ V.cell? ⟨m, 0, none⟩ = some (.slice A1 l1 c1) ∧ V.cell? ⟨m, 1, none⟩ = some (.bool t1) ∧ V.frozen? ⟨m, 0, none⟩ = false ∧ V.frozen? ⟨m, 1, none⟩ = false) := fun V hV => by
    have keep : ∀ {x : Nat} {C : Array Value}, wc.heap[x]? = some (.cells C 54 (0, 0)) → V.heap[x]? = some (.cells C 54 (0, 0)) := fun {x C} hx => ((hbW.trans (hV.mono hbW.size)).block x (Array.getElem?_eq_some_iff.1 hx).1).trans hx
    have hm' := (hV.block m (Array.getElem?_eq_some_iff.1 hbm).1).trans hbm
    exact ⟨⟨cell_of_row _ _ 0 _ _ _ (keep bi), cell_of_row _ _ 1 _ _ _ (keep bi)⟩, ⟨cell_of_row _ _ 0 _ _ _ (keep bj), cell_of_row _ _ 1 _ _ _ (keep bj)⟩, ⟨cell_of_row _ _ 0 _ _ _ (keep bk), cell_of_row _ _ 1 _ _ _ (keep bk)⟩, hm', cell_of_row _ _ 0 _ _ _ hm', cell_of_row _ _ 1 _ _ _ hm', box_free hm' 0, box_free hm' 1⟩
  rw [hW, hm]
  clear bi bj bk hbw hbm hbW hW hm e0 e1
  go_cut [9] from 20 to 36 (fun x wx => ∃ m' Ac' cc', x = .pointer (some ⟨m', 0, none⟩) ∧ wx.heap[m']? = some (.cells (heldA3 (keptO o a b)) 54 (0, 0)) ∧ MT w wx base p q r Ac cc cs Al cl fs Ac' cc' (cs ++ clashO n o a b) Al cl fs)
  case first =>
    obtain ⟨⟨e0, e1⟩, ⟨f0, f1⟩, ⟨g0, g1⟩, hbm, m0, m1, fm0, fm1⟩ := HCW.out W (Below.refl _ _)
    have HS1 := Lib.hid (HSM.out W a b HWW.out (.inr (.inl rfl)) (.inr (.inr rfl)))
    have HS2 : Hid (∀ V, Below w.heap.size w V → Calls Tryd.prog 26 #[.agg #[.slice A3 l3 c3, .bool t3], .agg #[.slice A1 l1 c1, .bool t1]] V fun e w' => e = .returned (.bool (decide (b.map Fi.data = o.map Fi.data))) ∧ Below V.heap.size V w') := fun V hV => by
      have := HSM.out V b o hV (.inr (.inr rfl)) (.inl rfl)
      rwa [E3.out, E1.out] at this
    have HS3 : Hid (∀ V, Below w.heap.size w V → Calls Tryd.prog 26 #[.agg #[.slice A2 l2 c2, .bool t2], .agg #[.slice A1 l1 c1, .bool t1]] V fun e w' => e = .returned (.bool (decide (a.map Fi.data = o.map Fi.data))) ∧ Below V.heap.size V w') := fun V hV => by
      have := HSM.out V a o hV (.inr (.inl rfl)) (.inl rfl)
      rwa [E2.out, E1.out] at this
    rw [E2.out, E3.out] at HS1
    clear hbm
    by_cases hab : a.map Fi.data = b.map Fi.data
    · have HK : Hid (keptO o a b = a ∧ clashO n o a b = []) := ⟨if_pos (.inl hab), if_pos (.inl hab)⟩
      rw [decide_eq_true hab] at HS1
      clear hab
      go_wp2_with (go_at_call 26; refine HS1.out.mono ?_; rintro e w2 ⟨rfl, hb2⟩; have HB2 := Lib.hid hb2; obtain ⟨⟨e0, e1⟩, ⟨f0, f1⟩, ⟨g0, g1⟩, hbm2, m0, m1, fm0, fm1⟩ := HCW.out w2 HB2.out; have HM2 := Lib.hid hbm2; have HX2 := Lib.hid (HWW.out.trans (HB2.out.mono HWW.out.size)); have HT2 := Lib.hid (HT.out.keepN HX2.out); have x2 : w2.cell? ⟨p, 0, none⟩ = some (.slice Ac cs.length cc) := cell_of_row _ _ 0 _ _ _ HT2.out.bp; clear hb2 hbm2)
      go_meet
      case rel =>
        refine ⟨m, Ac, cc, rfl, ?_, ?_⟩
        · rw [HK.out.1, F2.out]; exact setm HM2.out
        · rw [HK.out.2]; exact MT.kept HT.out (below_setm HX2.out HMW.out.2 _ _)
    · rw [decide_eq_false hab] at HS1
      by_cases hbo : b.map Fi.data = o.map Fi.data
      · have HK : Hid (keptO o a b = a ∧ clashO n o a b = []) := ⟨if_pos (.inr hbo), if_pos (.inr hbo)⟩
        rw [decide_eq_true hbo] at HS2
        clear hab hbo
        go_wp2_with (first | (go_at_call 26; refine (HS2.out w2 (HWW.out.trans (HB2.out.mono HWW.out.size))).mono ?_; rintro e w3 ⟨rfl, hb3⟩; have HB3 := Lib.hid (HB2.out.trans (hb3.mono HB2.out.size)); obtain ⟨⟨e0, e1⟩, ⟨f0, f1⟩, ⟨g0, g1⟩, hbm3, m0, m1, fm0, fm1⟩ := HCW.out w3 HB3.out; have HM3 := Lib.hid hbm3; have HX3 := Lib.hid (HWW.out.trans (HB3.out.mono HWW.out.size)); have HT3 := Lib.hid (HT.out.keepN HX3.out); have x3 : w3.cell? ⟨p, 0, none⟩ = some (.slice Ac cs.length cc) := cell_of_row _ _ 0 _ _ _ HT3.out.bp; clear hb3 hbm3) | (go_at_call 26; refine HS1.out.mono ?_; rintro e w2 ⟨rfl, hb2⟩; have HB2 := Lib.hid hb2; obtain ⟨⟨e0, e1⟩, ⟨f0, f1⟩, ⟨g0, g1⟩, hbm2, m0, m1, fm0, fm1⟩ := HCW.out w2 HB2.out; have HM2 := Lib.hid hbm2; have HX2 := Lib.hid (HWW.out.trans (HB2.out.mono HWW.out.size)); have HT2 := Lib.hid (HT.out.keepN HX2.out); have x2 : w2.cell? ⟨p, 0, none⟩ = some (.slice Ac cs.length cc) := cell_of_row _ _ 0 _ _ _ HT2.out.bp; clear hb2 hbm2))
        go_meet
        case rel =>
          refine ⟨m, Ac, cc, rfl, ?_, ?_⟩
          · rw [HK.out.1, F2.out]; exact setm HM3.out
          · rw [HK.out.2]; exact MT.kept HT.out (below_setm HX3.out HMW.out.2 _ _)
      · rw [decide_eq_false hbo] at HS2
        have hno : ¬ (a.map Fi.data = b.map Fi.data ∨ b.map Fi.data = o.map Fi.data) := fun e => e.elim hab hbo
        by_cases hao : a.map Fi.data = o.map Fi.data
        · have HK : Hid (keptO o a b = b ∧ clashO n o a b = []) := ⟨(if_neg hno).trans (if_pos hao), (if_neg hno).trans (if_pos hao)⟩
          rw [decide_eq_true hao] at HS3
          clear hab hbo hno hao
          go_wp2_with (first | (go_at_call 26; refine (HS3.out w3 (HWW.out.trans (HB3.out.mono HWW.out.size))).mono ?_; rintro e w4 ⟨rfl, hb4⟩; have HB4 := Lib.hid (HB3.out.trans (hb4.mono HB3.out.size)); obtain ⟨⟨e0, e1⟩, ⟨f0, f1⟩, ⟨g0, g1⟩, hbm4, m0, m1, fm0, fm1⟩ := HCW.out w4 HB4.out; have HM4 := Lib.hid hbm4; have HX4 := Lib.hid (HWW.out.trans (HB4.out.mono HWW.out.size)); have HT4 := Lib.hid (HT.out.keepN HX4.out); have x4 : w4.cell? ⟨p, 0, none⟩ = some (.slice Ac cs.length cc) := cell_of_row _ _ 0 _ _ _ HT4.out.bp; clear hb4 hbm4) | (go_at_call 26; refine (HS2.out w2 (HWW.out.trans (HB2.out.mono HWW.out.size))).mono ?_; rintro e w3 ⟨rfl, hb3⟩; have HB3 := Lib.hid (HB2.out.trans (hb3.mono HB2.out.size)); obtain ⟨⟨e0, e1⟩, ⟨f0, f1⟩, ⟨g0, g1⟩, hbm3, m0, m1, fm0, fm1⟩ := HCW.out w3 HB3.out; have HM3 := Lib.hid hbm3; have HX3 := Lib.hid (HWW.out.trans (HB3.out.mono HWW.out.size)); have HT3 := Lib.hid (HT.out.keepN HX3.out); have x3 : w3.cell? ⟨p, 0, none⟩ = some (.slice Ac cs.length cc) := cell_of_row _ _ 0 _ _ _ HT3.out.bp; clear hb3 hbm3) | (go_at_call 26; refine HS1.out.mono ?_; rintro e w2 ⟨rfl, hb2⟩; have HB2 := Lib.hid hb2; obtain ⟨⟨e0, e1⟩, ⟨f0, f1⟩, ⟨g0, g1⟩, hbm2, m0, m1, fm0, fm1⟩ := HCW.out w2 HB2.out; have HM2 := Lib.hid hbm2; have HX2 := Lib.hid (HWW.out.trans (HB2.out.mono HWW.out.size)); have HT2 := Lib.hid (HT.out.keepN HX2.out); have x2 : w2.cell? ⟨p, 0, none⟩ = some (.slice Ac cs.length cc) := cell_of_row _ _ 0 _ _ _ HT2.out.bp; clear hb2 hbm2))
          go_meet
          case rel =>
            refine ⟨m, Ac, cc, rfl, ?_, ?_⟩
            · rw [HK.out.1, F3.out]; exact setm HM4.out
            · rw [HK.out.2]; exact MT.kept HT.out (below_setm HX4.out HMW.out.2 _ _)
        · have HK : Hid (keptO o a b = o ∧ clashO n o a b = [n]) := ⟨(if_neg hno).trans (if_neg hao), (if_neg hno).trans (if_neg hao)⟩
          rw [decide_eq_false hao] at HS3
          clear hab hbo hno hao
          go_wp2_with (first | (go_at_call 26; refine (HS3.out w3 (HWW.out.trans (HB3.out.mono HWW.out.size))).mono ?_; rintro e w4 ⟨rfl, hb4⟩; have HB4 := Lib.hid (HB3.out.trans (hb4.mono HB3.out.size)); obtain ⟨⟨e0, e1⟩, ⟨f0, f1⟩, ⟨g0, g1⟩, hbm4, m0, m1, fm0, fm1⟩ := HCW.out w4 HB4.out; have HM4 := Lib.hid hbm4; have HX4 := Lib.hid (HWW.out.trans (HB4.out.mono HWW.out.size)); have HT4 := Lib.hid (HT.out.keepN HX4.out); have x4 : w4.cell? ⟨p, 0, none⟩ = some (.slice Ac cs.length cc) := cell_of_row _ _ 0 _ _ _ HT4.out.bp; clear hb4 hbm4) | (go_at_call 26; refine (HS2.out w2 (HWW.out.trans (HB2.out.mono HWW.out.size))).mono ?_; rintro e w3 ⟨rfl, hb3⟩; have HB3 := Lib.hid (HB2.out.trans (hb3.mono HB2.out.size)); obtain ⟨⟨e0, e1⟩, ⟨f0, f1⟩, ⟨g0, g1⟩, hbm3, m0, m1, fm0, fm1⟩ := HCW.out w3 HB3.out; have HM3 := Lib.hid hbm3; have HX3 := Lib.hid (HWW.out.trans (HB3.out.mono HWW.out.size)); have HT3 := Lib.hid (HT.out.keepN HX3.out); have x3 : w3.cell? ⟨p, 0, none⟩ = some (.slice Ac cs.length cc) := cell_of_row _ _ 0 _ _ _ HT3.out.bp; clear hb3 hbm3) | (go_at_call 26; refine HS1.out.mono ?_; rintro e w2 ⟨rfl, hb2⟩; have HB2 := Lib.hid hb2; obtain ⟨⟨e0, e1⟩, ⟨f0, f1⟩, ⟨g0, g1⟩, hbm2, m0, m1, fm0, fm1⟩ := HCW.out w2 HB2.out; have HM2 := Lib.hid hbm2; have HX2 := Lib.hid (HWW.out.trans (HB2.out.mono HWW.out.size)); have HT2 := Lib.hid (HT.out.keepN HX2.out); have x2 : w2.cell? ⟨p, 0, none⟩ = some (.slice Ac cs.length cc) := cell_of_row _ _ 0 _ _ _ HT2.out.bp; clear hb2 hbm2) | (at_builtin; go_must (skip; refine wpList_app1 w4 strElemP rfl (.tmp 20) (.tmp 22) rfl base (.slice Ac cs.length cc) cs.length _ rfl HT4.out.rp #[.string n] rfl rfl (by intro u hu; simp only [List.mem_cons, List.not_mem_nil, or_false] at hu; subst hu; rfl) (by unfold maxLen; omega) (by omega) (Nat.le_trans HBA.out HX4.out.size) ?_; intro A5 c5 w5 hA; have HA := Lib.hid hA; have hq5 := (Mod.of_app hA).keep HT4.out.bp (fun e => by have := (HT4.out.rp.lt p e).1; have := HT.out.lo; omega); have x5 : w5.cell? ⟨p, 0, none⟩ = some (.slice Ac cs.length cc) := cell_of_row _ _ 0 _ _ _ hq5; have f5 : w5.frozen? ⟨p, 0, none⟩ = false := box_free hq5 0; clear hA hq5)))
          go_meet
          case rel =>
            refine ⟨m, A5, c5, rfl, ?_, ?_⟩
            · rw [HK.out.1, F1.out]
              refine ((Mod.refl (oneB p) w5).set ⟨p, 0, none⟩ _ (.inl rfl)).keep ((Mod.of_app HA.out).keep HM4.out (fun e => ?_)) (fun e => ?_)
              · have := (HT.out.rp.lt m e).2
                have := HMW.out.2
                omega
              · have e : m = p := e
                have := HT.out.lt
                have := HMW.out.2
                omega
            · rw [HK.out.2]
              exact MT.clash n HT.out HR.out HX4.out HA.out
  case rest =>
  obtain ⟨m', Ac', cc', rfl, hbm, hmt⟩ := hcut
  clear HCW HMW HWW HBW HSM E1 E2 E3 F1 F2 F3
  have hbl : Below B w wc := hmt.low.below (Below.refl _ _) HB.out (fun k hk => by have := HBP.out; omega)
  have HMT := Lib.hid hmt
  have HBL := Lib.hid hbl
  clear hbl hmt
  cases hk : keptO o a b with
  | none =>
    have HK := Lib.hid hk
    rw [hk] at hbm
    have c1' : wc.cell? ⟨m', 1, none⟩ = some (.bool false) := cell_of_row _ _ 1 _ _ _ hbm
    clear hk hbm
    go_wp2
    go_end0
    exact ⟨rfl, by rw [HK.out]; exact MPost.of HMT.out⟩
  | some y =>
    have HK := Lib.hid hk
    rw [hk] at hbm HKB
    have c0' : wc.cell? ⟨m', 0, none⟩ = some (.slice y.ad y.data.length y.cp) := cell_of_row _ _ 0 _ _ _ hbm
    have c1' : wc.cell? ⟨m', 1, none⟩ = some (.bool true) := cell_of_row _ _ 1 _ _ _ hbm
    have x0 : wc.cell? ⟨q, 0, none⟩ = some (.slice Al fs.length cl) := cell_of_row _ _ 0 _ _ _ HMT.out.two.bq
    have HCL := Lib.hid (cloneB_any y.ad y.data.length y.cp y.data B wc.drew rfl HKB.out.2 ((HKB.out.1 y rfl).below (Below.drewN HBL.out 1) (Nat.le_refl _)))
    clear hk hbm
    go_wp2
    go_region_law (first
      | (go_simp; go_at_call 27; refine HCL.out.mono ?_; rintro e w5 ⟨A5, c5, rfl, ho5, hb5⟩; have HO5 := Lib.hid ho5; have HB5 := Lib.hid (show Below wc.heap.size wc w5 from ((Below.drewN (Below.refl _ wc) 1).trans hb5)); have HT5 := Lib.hid (HMT.out.two.keepN HB5.out); have x5 : w5.cell? ⟨q, 0, none⟩ = some (.slice Al fs.length cl) := cell_of_row _ _ 0 _ _ _ HT5.out.bq; have y5 : ∀ o, (w5.alloc o).cell? ⟨q, 0, none⟩ = some (.slice Al fs.length cl) := fun o => (World.cell?_alloc_lt w5 o _ (HT5.out.lt.2)).trans x5; clear ho5 hb5)
      | (refine step_app1c w5 fileElem (by rfl) (.tmp 39) (.tmp 45) (by rfl) base (.slice Al fs.length cl) fs.length (fiCells fs) (by rfl) HT5.out.rq #[.string n, .slice A5 y.data.length c5] (by rfl) (by rfl) (by intro u hu; simp only [List.mem_cons, List.not_mem_nil, or_false] at hu; rcases hu with rfl | rfl <;> rfl) (by unfold maxLen; omega) (by omega) (Nat.le_trans HBA.out (Nat.le_trans HMT.out.mod.size HB5.out.size)) ?_; intro A6 c6 w6 hA; have HA := Lib.hid hA; have hq6 := (Mod.of_app hA).keep HT5.out.bq (fun e => by have := (HT5.out.rq.lt q e).1; have := HT.out.lo; omega); have x6 : w6.cell? ⟨q, 0, none⟩ = some (.slice Al fs.length cl) := cell_of_row _ _ 0 _ _ _ hq6; have f6 : w6.frozen? ⟨q, 0, none⟩ = false := box_free hq6 0; clear hA hq6))
    all_goals
      go_wp2
      go_end0
      exact ⟨rfl, by rw [HK.out]; exact MPost.put ⟨n, y.data, A5, c5⟩ HMT.out HR.out HB5.out (Keeps.of_own HO5.out (HMT.out.two.low (Nat.lt_of_lt_of_le HR.out HMT.out.mod.size))) (own_capF HO5.out) HA.out⟩
end Go.Proofs.YtfnkbpcimbldbaaDoor
/- Layer 38: plan.Merge. -/
namespace Go.Proofs.YtfnkbpcimbldbaaDoor
open Go.RowKit

theorem MPost.comp {w w1 w2 : World} {base p q r : Nat} {Ac Ac' : Option Addr} {cc cc' : Nat} {cs cx : List ByteArray} {Al Al' : Option Addr} {cl cl' : Nat} {fs px : List Fi} {x2 : List ByteArray} {y2 : List (ByteArray × List UInt8)}
    (h : MT w w1 base p q r Ac cc cs Al cl fs Ac' cc' (cs ++ cx) Al' cl' (fs ++ px)) (hp : ∀ f ∈ px, Keeps w1 (twoS p q r (.slice Ac' (cs ++ cx).length cc') (.slice Al' (fs ++ px).length cl')) f.ad f.data ∧ f.data.length ≤ f.cp)
    (k : MPost w1 base p q r Ac' cc' (cs ++ cx) Al' cl' (fs ++ px) w2 x2 y2) : MPost w base p q r Ac cc cs Al cl fs w2 (cx ++ x2) (px.map Fi.key ++ y2) := by
  obtain ⟨A1, c1, A2, c2, p1, ht, rfl, k2⟩ := k
  refine ⟨A1, c1, A2, c2, px ++ p1, ?_, by rw [List.map_append], ?_⟩
  · rw [← List.append_assoc, ← List.append_assoc]
    exact h.trans ht
  · intro o ho
    rw [← List.append_assoc, ← List.append_assoc]
    rcases List.mem_append.1 ho with ho | ho
    · exact ⟨(hp o ho).1.on ht, (hp o ho).2⟩
    · exact k2 o ho
theorem MPost.third {w w1 w2 : World} {base p q r : Nat} {Ac : Option Addr} {cc : Nat} {cs : List ByteArray} {Al : Option Addr} {cl : Nat} {fs : List Fi} {x : List ByteArray} {y : List (ByteArray × List UInt8)} (h : MPost w base p q r Ac cc cs Al cl fs w1 x y) (hm : Mod (oneB r) w1 w2) (hr : w.heap.size ≤ r) : MPost w base p q r Ac cc cs Al cl fs w2 x y := by
  obtain ⟨A1, c1, A2, c2, p1, ht, h1, k2⟩ := h
  exact ⟨A1, c1, A2, c2, p1, ht.third hm hr, h1, fun o ho => ⟨(k2 o ho).1.mod hm (fun k e => .inr (.inr (.inl e))), (k2 o ho).2⟩⟩
theorem clashO_len (n : ByteArray) (o a b : Option Fi) : (clashO n o a b).length ≤ 1 := by
  unfold clashO
  split
  · simp
  · split <;> simp
theorem keptX_len (n : ByteArray) (t : Option Fi) : (keptX n t).length ≤ 1 := by
  cases t <;> simp [keptX]
theorem clash_flat (o a b : List Fi) : ∀ U : List ByteArray, U.flatMap (fun n => clashO n (findK Fi.nm o n) (findK Fi.nm a n) (findK Fi.nm b n)) = clashL (o.map Fi.key) (a.map Fi.key) (b.map Fi.key) U
  | [] => rfl
  | n :: U => by
    rw [List.flatMap_cons, clash_flat o a b U]
    unfold clashL
    rw [List.filter_cons]
    unfold clashO clashN
    rw [get_key, get_key, get_key]
    by_cases h1 : (findK Fi.nm a n).map Fi.data = (findK Fi.nm b n).map Fi.data ∨ (findK Fi.nm b n).map Fi.data = (findK Fi.nm o n).map Fi.data
    · rw [if_pos h1, if_neg]
      · rfl
      · have h2 : (findK Fi.nm a n).map Fi.data = (findK Fi.nm b n).map Fi.data ∨ (findK Fi.nm o n).map Fi.data = (findK Fi.nm b n).map Fi.data := h1.imp id Eq.symm
        simp [decide_eq_true h2]
    · have h2 : ¬ ((findK Fi.nm a n).map Fi.data = (findK Fi.nm b n).map Fi.data ∨ (findK Fi.nm o n).map Fi.data = (findK Fi.nm b n).map Fi.data) := fun e => h1 (e.imp id Eq.symm)
      rw [if_neg h1]
      by_cases h3 : (findK Fi.nm a n).map Fi.data = (findK Fi.nm o n).map Fi.data
      · rw [if_pos h3, if_neg]
        · rfl
        · simp [decide_eq_true h3.symm]
      · rw [if_neg h3, if_pos]
        · rfl
        · rw [decide_eq_false h2, decide_eq_false (fun e => h3 (Eq.symm e))]
          rfl
theorem kept_flat (o a b : List Fi) : ∀ U : List ByteArray, U.flatMap (fun n => keptX n (keptO (findK Fi.nm o n) (findK Fi.nm a n) (findK Fi.nm b n))) = mergeL (o.map Fi.key) (a.map Fi.key) (b.map Fi.key) U
  | [] => rfl
  | n :: U => by
    rw [List.flatMap_cons, kept_flat o a b U]
    unfold mergeL
    rw [List.filterMap_cons]
    have hk : keptN (o.map Fi.key) (a.map Fi.key) (b.map Fi.key) n = (keptO (findK Fi.nm o n) (findK Fi.nm a n) (findK Fi.nm b n)).map Fi.data := by
      unfold keptN keptO
      rw [get_key, get_key, get_key]
      by_cases h1 : (findK Fi.nm a n).map Fi.data = (findK Fi.nm b n).map Fi.data ∨ (findK Fi.nm b n).map Fi.data = (findK Fi.nm o n).map Fi.data
      · rw [if_pos h1, if_pos (h1.imp id Eq.symm)]
      · rw [if_neg h1, if_neg (fun e => h1 (e.imp id Eq.symm))]
        by_cases h3 : (findK Fi.nm a n).map Fi.data = (findK Fi.nm o n).map Fi.data
        · rw [if_pos h3, if_pos h3.symm]
        · rw [if_neg h3, if_neg (fun e => h3 (Eq.symm e))]
    rw [hk]
    cases keptO (findK Fi.nm o n) (findK Fi.nm a n) (findK Fi.nm b n) with
    | none => rfl
    | some f => rfl

theorem results_cell2P {fn : Func} {p q : Tmp} {ty tz : TypeId} (h : fn.results = #[.cell p ty, .cell q tz]) (tmps : Array Value) (P : Program) (w : World) :
    (results fn tmps).run P w = ((asAddr (tmps.getD p undef)).run P w).andThen fun a w₁ => ((loadVar ty a).run P w₁).andThen fun v w₂ => ((asAddr (tmps.getD q undef)).run P w₂).andThen fun b w₃ => ((loadVar tz b).run P w₃).andThen fun v2 w₄ => .ok (.tuple #[v, v2]) w₄ := by
  simp only [results, h]
  simp [Sem.run_bind, Result.andThen]
set_option maxRecDepth 100000 in
set_option maxHeartbeats 2000000 in
theorem merge_any (A0 A1 A2 : Option Addr) (l0 c0 l1 c1 l2 c2 : Nat) (o a b : List Fi) (B : Nat) (w : World) (hl0 : o.length = l0) (hl1 : a.length = l1) (hl2 : b.length = l2) (hm0 : l0 ≤ 100000) (hm1 : l1 ≤ 100000) (hm2 : l2 ≤ 100000) (hc0 : l0 ≤ c0 ∧ 0 ≤ c0) (hc1 : l1 ≤ c1 ∧ 0 ≤ c1) (hc2 : l2 ≤ c2 ∧ 0 ≤ c2)
    (ho : Ris Fi.nm o) (ha : Ris Fi.nm a) (hb : Ris Fi.nm b) (hfo : Files w B A0 o) (hfa : Files w B A1 a) (hfb : Files w B A2 b) (hdo : ∀ f ∈ o, f.data.length ≤ 1000000) (hda : ∀ f ∈ a, f.data.length ≤ 1000000) (hdb : ∀ f ∈ b, f.data.length ≤ 1000000) (hB : B ≤ w.heap.size) :
    Calls Tryd.prog 20 #[.slice A0 l0 c0, .slice A1 l1 c1, .slice A2 l2 c2] w fun e w' => ∃ A' c' fs C' d' cs, e = .returned (.tuple #[.slice A' fs.length c', .slice C' cs.length d']) ∧ fs.map Fi.key = mergeL (o.map Fi.key) (a.map Fi.key) (b.map Fi.key) (uni3 (o.map Fi.key) (a.map Fi.key) (b.map Fi.key)) ∧ Files w' w'.heap.size A' fs ∧
      cs = clashL (o.map Fi.key) (a.map Fi.key) (b.map Fi.key) (uni3 (o.map Fi.key) (a.map Fi.key) (b.map Fi.key)) ∧ Cells w' w'.heap.size C' (nmV cs) ∧ Below w.heap.size w w' := by
  obtain ⟨W1, hW1⟩ : ∃ W1, w.alloc (.cells #[.slice none 0 0] 22) = W1 := ⟨_, rfl⟩
  obtain ⟨W2, hW2⟩ : ∃ W2, W1.alloc (.cells #[.slice none 0 0] 40) = W2 := ⟨_, rfl⟩
  obtain ⟨W3, hW3⟩ : ∃ W3, W2.alloc (.cells #[.slice A0 l0 c0, .slice A1 l1 c1, .slice A2 l2 c2] 22) = W3 := ⟨_, rfl⟩
  have z1 : W1.heap.size = w.heap.size + 1 := by rw [← hW1, World.size_alloc]
  have z2 : W2.heap.size = w.heap.size + 1 + 1 := by rw [← hW2, World.size_alloc, z1]
  have z3 : W3.heap.size = w.heap.size + 1 + 1 + 1 := by rw [← hW3, World.size_alloc, z2]
  have hb3 : Below w.heap.size w W3 := by rw [← hW3, ← hW2, ← hW1]; exact (((Below.refl _ w).alloc (Nat.le_refl _) _).alloc (by simp) _).alloc (by rw [World.size_alloc, World.size_alloc]; omega) _
  have q3 : W3.heap[w.heap.size]? = some (.cells #[.slice none 0 0] 22 (0, 0)) := by
    rw [← hW3]
    refine (Below.heap_alloc W2 _ _ (by omega)).trans ?_
    rw [← hW2]
    refine (Below.heap_alloc W1 _ _ (by omega)).trans ?_
    rw [← hW1]
    exact heap_alloc_new w _
  have p3 : W3.heap[w.heap.size + 1]? = some (.cells #[.slice none 0 0] 40 (0, 0)) := by
    rw [← hW3]
    refine (Below.heap_alloc W2 _ _ (by omega)).trans ?_
    rw [← hW2, ← z1]
    exact heap_alloc_new W1 _
  have r3 : W3.heap[W2.heap.size]? = some (.cells #[.slice A0 l0 c0, .slice A1 l1 c1, .slice A2 l2 c2] 22 (0, 0)) := by rw [← hW3]; exact heap_alloc_new W2 _
  obtain ⟨U, hUd⟩ : ∃ U, uni3 (o.map Fi.key) (a.map Fi.key) (b.map Fi.key) = U := ⟨_, rfl⟩
  have hUr : Ris id U := by rw [← hUd]; exact uni_ris _
  have hUm2 : ∀ s, s ∈ U ↔ s ∈ (o.map Fi.key).map Prod.fst ∨ s ∈ (a.map Fi.key).map Prod.fst ∨ s ∈ (b.map Fi.key).map Prod.fst := by rw [← hUd]; exact uni3_mem _ _ _
  have hUl : U.length ≤ 300000 := by
    rw [← hUd]
    refine Nat.le_trans (uni_len _) ?_
    rw [List.length_append, List.length_append, List.length_map, List.length_map, List.length_map, List.length_map, List.length_map, List.length_map]
    omega
  have key : ∀ {l : List Fi} {s : ByteArray}, s ∈ (l.map Fi.key).map Prod.fst ↔ ∃ x ∈ l, x.nm = s := fun {l s} => by
    rw [List.map_map, List.mem_map]
    rfl
  have all : ∀ {P : FL → Prop}, P ⟨A0, c0, o⟩ → P ⟨A1, c1, a⟩ → P ⟨A2, c2, b⟩ → ∀ q ∈ [(⟨A0, c0, o⟩ : FL), ⟨A1, c1, a⟩, ⟨A2, c2, b⟩], P q := fun {P} h0 h1 h2 q hq => by
    simp only [List.mem_cons, List.not_mem_nil, or_false] at hq
    rcases hq with rfl | rfl | rfl
    · exact h0
    · exact h1
    · exact h2
  have HE := Lib.hid (each_any 35 B W3.heap.size W2.heap.size (w.heap.size + 1) w.heap.size 3 3 (fun r k V => MPost W3 W3.heap.size (w.heap.size + 1) w.heap.size r none 0 [] none 0 [] V ((U.take k).flatMap fun n => clashO n (findK Fi.nm o n) (findK Fi.nm a n) (findK Fi.nm b n)) ((U.take k).flatMap fun n => keptX n (keptO (findK Fi.nm o n) (findK Fi.nm a n) (findK Fi.nm b n))))
    [⟨A0, c0, o⟩, ⟨A1, c1, a⟩, ⟨A2, c2, b⟩] U W3 (fun _ _ => rfl) rfl (by omega) (by omega)
    (fun _ => ⟨W2.heap.size, 0, rfl, by omega, fun j u hj => by
      rw [Nat.zero_add, cell_of_row _ _ _ _ _ _ r3]
      rw [← hl0, ← hl1, ← hl2]
      simpa [FL.val] using hj⟩) (Nat.le_refl _)
    (all (P := fun q => Files W3 B q.ad q.fs) (hfo.below hb3 hB) (hfa.below hb3 hB) (hfb.below hb3 hB))
    (all (P := fun q => q.fs.length ≤ 1000000 ∧ q.fs.length ≤ q.cp ∧ 0 ≤ q.cp) ⟨by show o.length ≤ _; omega, by show o.length ≤ c0; omega, hc0.2⟩ ⟨by show a.length ≤ _; omega, by show a.length ≤ c1; omega, hc1.2⟩ ⟨by show b.length ≤ _; omega, by show b.length ≤ c2; omega, hc2.2⟩)
    (by omega)
    (all (P := fun q => Ris Fi.nm q.fs) ho ha hb)
    hUr
    (by intro s
        rw [hUm2, key, key, key]
        constructor
        · rintro (h | h | h)
          · exact ⟨_, List.mem_cons_self .., h⟩
          · exact ⟨_, List.mem_cons_of_mem _ (List.mem_cons_self ..), h⟩
          · exact ⟨_, List.mem_cons_of_mem _ (List.mem_cons_of_mem _ (List.mem_cons_self ..)), h⟩
        · rintro ⟨q, hq, h⟩
          simp only [List.mem_cons, List.not_mem_nil, or_false] at hq
          rcases hq with rfl | rfl | rfl
          · exact .inl h
          · exact .inr (.inl h)
          · exact .inr (.inr h))
    (fun r w1 hb1 hr => by
      have h0 := two_start (ep := 9) (eq := 32) (kp := 1) (kq := 2) p3 q3 (by omega) hr
      exact ⟨none, 0, none, 0, [], TPost.below h0 hb1, rfl, (by intro o ho; cases ho)⟩)
    (fun r k w1 w2 hI hm hr => hI.third hm hr)
    (fun r k n h w1 hn hI hbw hr hrl hH => by
      obtain ⟨Ac, cc, Al, cl, px, ht, e2, k2⟩ := hI
      have lx : ((U.take k).flatMap fun n => clashO n (findK Fi.nm o n) (findK Fi.nm a n) (findK Fi.nm b n)).length ≤ 300000 :=
        Nat.le_trans (flat_len _ (fun n => clashO_len n _ _ _) _) (Nat.le_trans (by rw [List.length_take]; omega) hUl)
      have ly : px.length ≤ 300000 := by
        have h1 := congrArg List.length e2
        rw [List.length_map] at h1
        rw [h1]
        exact Nat.le_trans (flat_len _ (fun n => keptX_len n _) _) (Nat.le_trans (by rw [List.length_take]; omega) hUl)
      have hz := ht.mod.size
      refine (mergeCl_any W3.heap.size B (w.heap.size + 1) w.heap.size r h n (findK Fi.nm o n) (findK Fi.nm a n) (findK Fi.nm b n) Ac Al cc cl _ ([] ++ px) w1 ht.two hrl hH (bytesO_find (hfo.below hb3 hB) hbw) (bytesO_find (hfa.below hb3 hB) hbw) (bytesO_find (hfb.below hb3 hB) hbw) (dataO_len hdo) (dataO_len hda) (dataO_len hdb) (by rw [List.nil_append]; omega) (by rw [List.nil_append]; omega) (Nat.le_trans (Nat.le_trans hB hb3.size) hz) (by omega) hz).mono ?_
      rintro e w2 ⟨rfl, hp⟩
      have hc := MPost.comp ht k2 hp
      rw [e2, ← flat_take _ hn, ← flat_take (fun n => keptX n (keptO (findK Fi.nm o n) (findK Fi.nm a n) (findK Fi.nm b n))) hn] at hc
      refine ⟨rfl, hc, ?_⟩
      obtain ⟨_, _, _, _, _, hx, _⟩ := hp
      exact hx.low.mono (fun j hj => ⟨by rcases hj.1 with h1 | h1 | h1 <;> omega, hj.2⟩)))
  have HB3 := Lib.hid hb3
  rw [List.take_length, z2, clash_flat, kept_flat] at HE
  rw [hUd]
  clear hl0 hl1 hl2 hm0 hm1 hm2 hc0 hc1 hc2 ho ha hb hfo hfa hfb hdo hda hdb hB hb3 p3 q3 r3 hUr hUm2 hUl key hUd all
  go_enter Tryd.func20, Tryd.ntmps20
  go_wp2_with (go_at_call 24; refine HE.out.mono ?_; rintro e w4 ⟨rfl, r, hr, Ac, cc, Al, cl, px, ht, e2, k2⟩; have HT := Lib.hid ht; have E2 := Lib.hid e2; have K2 := Lib.hid k2; have x4 : w4.cell? ⟨w.heap.size + 1, 0, none⟩ = some (.slice Ac ([] ++ clashL (o.map Fi.key) (a.map Fi.key) (b.map Fi.key) U).length cc) := cell_of_row _ _ 0 _ _ _ ht.two.bp; have y4 : w4.cell? ⟨w.heap.size, 0, none⟩ = some (.slice Al ([] ++ px).length cl) := cell_of_row _ _ 0 _ _ _ ht.two.bq; have f4 := box_free ht.two.bp 0; have g4 := box_free ht.two.bq 0; clear hr ht e2 k2)
  go_region
  all_goals
    go_wp2
    obtain ⟨cs, hcs⟩ : ∃ cs, clashL (o.map Fi.key) (a.map Fi.key) (b.map Fi.key) U = cs := ⟨_, rfl⟩
    rw [hcs]
    have ht := HT.out
    have hk2 := K2.out
    rw [hcs] at ht hk2
    obtain ⟨W5, hW5⟩ : ∃ W5, ((w4.setCell ⟨w.heap.size, 0, none⟩ (.slice Al px.length cl)).setCell ⟨w.heap.size + 1, 0, none⟩ (.slice Ac cs.length cc)).drew = W5 := ⟨_, rfl⟩
    have hm5 : Mod (fun k => k = w.heap.size + 1 ∨ k = w.heap.size) w4 W5 := by rw [← hW5]; exact (((Mod.refl _ w4).set ⟨w.heap.size, 0, none⟩ _ (.inl (.inr rfl))).set ⟨w.heap.size + 1, 0, none⟩ _ (.inl (.inl rfl))).drew
    have q4 : (w4.setCell ⟨w.heap.size, 0, none⟩ (.slice Al px.length cl)).heap[w.heap.size]? = some (.cells #[.slice Al px.length cl] 22 (0, 0)) := by
      rw [heap_setCell_same w4 w.heap.size 0 _ _ _ ht.two.bq]
      rfl
    have p4 : (w4.setCell ⟨w.heap.size, 0, none⟩ (.slice Al px.length cl)).heap[w.heap.size + 1]? = some (.cells #[.slice Ac cs.length cc] 40 (0, 0)) :=
      ((Mod.refl (oneB w.heap.size) w4).set ⟨w.heap.size, 0, none⟩ _ (.inl rfl)).keep ht.two.bp (fun e => by have e : w.heap.size + 1 = w.heap.size := e; omega)
    have q5 : W5.heap[w.heap.size]? = some (.cells #[.slice Al px.length cl] 22 (0, 0)) := by
      rw [← hW5]
      exact ((Mod.refl (oneB (w.heap.size + 1)) _).set ⟨w.heap.size + 1, 0, none⟩ _ (.inl rfl)).keep q4 (fun e => by have e : w.heap.size = w.heap.size + 1 := e; omega)
    have p5 : W5.heap[w.heap.size + 1]? = some (.cells #[.slice Ac cs.length cc] 40 (0, 0)) := by
      rw [← hW5]
      show ((w4.setCell _ _).setCell _ _).heap[_]? = _
      rw [heap_setCell_same _ (w.heap.size + 1) 0 _ _ _ p4]
      rfl
    have x5 : W5.cell? ⟨w.heap.size + 1, 0, none⟩ = some (.slice Ac cs.length cc) := cell_of_row _ _ 0 _ _ _ p5
    have y5 : W5.cell? ⟨w.heap.size, 0, none⟩ = some (.slice Al px.length cl) := cell_of_row _ _ 0 _ _ _ q5
    rw [hW5]
    have hlo := ht.two.lo
    have hb4 : Below w.heap.size w w4 := ht.low.below HB3.out HB3.out.size (fun k hk => by have := HB3.out.size; rcases hk.1 with h | h | h <;> omega)
    refine bodyPost_ret (v := .tuple #[.slice Al px.length cl, .slice Ac cs.length cc]) ?_ rfl ⟨Al, cl, px, Ac, cc, cs, rfl, by rw [E2.out], ⟨cells_of_ownF (own_keep ht.two.rq hm5 (fun k hk e => by have := (ht.two.rq.lt k hk).1; omega)), fun f hf => ?_⟩, rfl, cells_of_ownF (own_keep ht.two.rp hm5 (fun k hk e => by have := (ht.two.rp.lt k hk).1; omega)), hm5.below hb4 hb4.size (fun k hk => by omega)⟩
    · rw [results_cell2P rfl]
      go_simp
    · obtain ⟨h1, h2⟩ := hk2 f hf
      exact ⟨(h1.mod hm5 (fun k hk => by rcases hk with hk | hk; exact .inl hk; exact .inr (.inl hk))).bytes, h2⟩
end Go.Proofs.YtfnkbpcimbldbaaDoor
