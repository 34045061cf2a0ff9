/- Layer 38: what Merge does with a name. -/
import Derived.Test.YtfnkbpcimbldbaaPnG
import Derived.Deep.CutBlock
namespace Go.Proofs.Ytfnkbpcimbldbaa
open Go.RowKit

theorem strElemP : Elem Try.prog 25 9 (.string ⟨#[]⟩) 1 16 := Elem.of Try.underlying25 (by kernel_rfl) (by kernel_rfl) (by omega)
/-- What is kept of a name. -/
def keptO (o a b : Option Fi) : Option Fi := if a.map Fi.data = b.map Fi.data ∨ b.map Fi.data = o.map Fi.data then a else if a.map Fi.data = o.map Fi.data then b else o
def clashO (n : ByteArray) (o a b : Option Fi) : List ByteArray := if a.map Fi.data = b.map Fi.data ∨ b.map Fi.data = o.map Fi.data then [] else if a.map Fi.data = o.map Fi.data then [] else [n]
def keptX (n : ByteArray) : Option Fi → List (ByteArray × List UInt8)
  | none => []
  | some f => [(n, f.data)]
def nmV (cs : List ByteArray) : List Value := cs.map Value.string
abbrev MTwo (w : World) (base p q r : Nat) (Ac : Option Addr) (cc : Nat) (cs : List ByteArray) (Al : Option Addr) (cl : Nat) (fs : List Fi) : Prop :=
  TwoR w base p q r 25 22 9 33 1 2 (.slice Ac cs.length cc) cs.length (nmV cs) (.slice Al fs.length cl) fs.length (fiCells fs)
abbrev MT (w w' : World) (base p q r : Nat) (Ac : Option Addr) (cc : Nat) (cs : List ByteArray) (Al : Option Addr) (cl : Nat) (fs : List Fi) (Ac' : Option Addr) (cc' : Nat) (cs' : List ByteArray) (Al' : Option Addr) (cl' : Nat) (fs' : List Fi) : Prop :=
  TPost w w' base p q r 25 22 9 33 1 2 (.slice Ac cs.length cc) (.slice Al fs.length cl) (.slice Ac' cs'.length cc') (.slice Al' fs'.length cl') cs'.length fs'.length (nmV cs') (fiCells fs')
/-- What the closure leaves. -/
def MPost (w : World) (base p q r : Nat) (Ac : Option Addr) (cc : Nat) (cs : List ByteArray) (Al : Option Addr) (cl : Nat) (fs : List Fi) (w' : World) (x : List ByteArray) (y : List (ByteArray × List UInt8)) : Prop :=
  ∃ Ac' cc' Al' cl' px, MT w w' base p q r Ac cc cs Al cl fs Ac' cc' (cs ++ x) Al' cl' (fs ++ px) ∧ px.map Fi.key = y ∧ ∀ f ∈ px, Keeps w' (twoS p q r (.slice Ac' (cs ++ x).length cc') (.slice Al' (fs ++ px).length cl')) f.ad f.data ∧ f.data.length ≤ f.cp
section
variable {w V w7 : World} {base p q r : Nat} {Ac Ac' A3 : Option Addr} {cc cc' c3 : Nat} {cs x : List ByteArray} {Al : Option Addr} {cl : Nat} {fs : List Fi}
theorem MPost.of (h : MT w V base p q r Ac cc cs Al cl fs Ac' cc' (cs ++ x) Al cl fs) : MPost w base p q r Ac cc cs Al cl fs V x [] := by
  refine ⟨Ac', cc', Al, cl, [], ?_, rfl, (by intro o ho; cases ho)⟩
  rw [List.append_nil]
  exact h
theorem MT.clash (n : ByteArray) (hT : MTwo w base p q r Ac cc cs Al cl fs) (hr : r < w.heap.size) (hb : Below w.heap.size w V)
    (hA : App V base 9 1 (.slice Ac cs.length cc) (cs.length + 1) (nmV cs ++ [.string n]) w7 (.slice A3 (cs.length + 1) c3)) : MT w (w7.setCell ⟨p, 0, none⟩ (.slice A3 (cs.length + 1) c3)) base p q r Ac cc cs Al cl fs A3 c3 (cs ++ [n]) Al cl fs := by
  have e1 : nmV (cs ++ [n]) = nmV cs ++ [.string n] := by unfold nmV; rw [List.map_append]; rfl
  unfold MT
  rw [e1, List.length_append]
  exact TPost.app hT hr hb hA
theorem MPost.put {V0 : World} (f : Fi) (h : MT w V0 base p q r Ac cc cs Al cl fs Ac' cc' (cs ++ x) Al cl fs) (hr : r < w.heap.size) (hb : Below V0.heap.size V0 V)
    (hk : Keeps V (twoS p q r (.slice Ac' (cs ++ x).length cc') (.slice Al fs.length cl)) f.ad f.data) (hc : f.data.length ≤ f.cp)
    (hA : App V base 33 2 (.slice Al fs.length cl) (fs.length + 1) (fiCells fs ++ f.cells) w7 (.slice A3 (fs.length + 1) c3)) : MPost w base p q r Ac cc cs Al cl fs (w7.setCell ⟨q, 0, none⟩ (.slice A3 (fs.length + 1) c3)) x [f.key] := by
  have hr0 := Nat.lt_of_lt_of_le hr h.mod.size
  have hrV := Nat.lt_of_lt_of_le hr0 hb.size
  have t1 := TPost.app h.two.swap hr0 hb hA
  have t2 := TPost.app (h.two.keepN hb).swap hrV (Below.refl _ _) hA
  refine ⟨Ac', cc', A3, c3, [f], ?_, rfl, ?_⟩
  · unfold MT
    rw [fiCells_snoc, @List.length_append _ fs]
    exact h.trans t1.swap
  · intro o' ho'
    rw [List.mem_singleton] at ho'
    subst ho'
    rw [@List.length_append _ fs]
    exact ⟨hk.on t2.swap, hc⟩
end
/-- Three boxes behind a world. -/
def Box3 (w : World) (t : TypeId) (C D E : Array Value) (i j k : Nat) (V : World) : Prop := Below w.heap.size w V ∧ V.heap[i]? = some (.cells C t (0, 0)) ∧ V.heap[j]? = some (.cells D t (0, 0)) ∧ V.heap[k]? = some (.cells E t (0, 0))
theorem box3_a (w : World) (t : TypeId) (C D E : Array Value) : Box3 w t C D E w.heap.size (w.heap.size + 1) (w.heap.size + 1 + 1) (((w.alloc (.cells C t)).alloc (.cells D t)).alloc (.cells E t)).drew := by
  refine ⟨Below.drewN ((((Below.refl _ w).alloc (Nat.le_refl _) _).alloc (by simp) _).alloc (by rw [World.size_alloc, World.size_alloc]; omega) _) 1, ?_, ?_, ?_⟩
  · exact ((Below.heap_alloc _ _ _ (by rw [World.size_alloc, World.size_alloc]; omega)).trans (Below.heap_alloc _ _ _ (by simp))).trans (heap_alloc_new w _)
  · have h := heap_alloc_new (w.alloc (.cells C t)) (.cells D t)
    rw [World.size_alloc] at h
    exact (Below.heap_alloc _ _ _ (by simp)).trans h
  · have h := heap_alloc_new ((w.alloc (.cells C t)).alloc (.cells D t)) (.cells E t)
    rw [World.size_alloc, World.size_alloc] at h
    exact h
theorem box3_b (w : World) (t : TypeId) (C D E : Array Value) : Box3 w t C D E w.heap.size (w.heap.size + 1 + 1) (w.heap.size + 1) (((w.alloc (.cells C t)).alloc (.cells E t)).alloc (.cells D t)).drew := by
  obtain ⟨h1, h2, h3, h4⟩ := box3_a w t C E D
  exact ⟨h1, h2, h4, h3⟩
theorem box3_c (w : World) (t : TypeId) (C D E : Array Value) : Box3 w t C D E (w.heap.size + 1) w.heap.size (w.heap.size + 1 + 1) (((w.alloc (.cells D t)).alloc (.cells C t)).alloc (.cells E t)).drew := by
  obtain ⟨h1, h2, h3, h4⟩ := box3_a w t D C E
  exact ⟨h1, h3, h2, h4⟩
theorem box3_d (w : World) (t : TypeId) (C D E : Array Value) : Box3 w t C D E (w.heap.size + 1) (w.heap.size + 1 + 1) w.heap.size (((w.alloc (.cells E t)).alloc (.cells C t)).alloc (.cells D t)).drew := by
  obtain ⟨h1, h2, h3, h4⟩ := box3_a w t E C D
  exact ⟨h1, h3, h4, h2⟩
theorem box3_e (w : World) (t : TypeId) (C D E : Array Value) : Box3 w t C D E (w.heap.size + 1 + 1) w.heap.size (w.heap.size + 1) (((w.alloc (.cells D t)).alloc (.cells E t)).alloc (.cells C t)).drew := by
  obtain ⟨h1, h2, h3, h4⟩ := box3_a w t D E C
  exact ⟨h1, h4, h2, h3⟩
theorem box3_f (w : World) (t : TypeId) (C D E : Array Value) : Box3 w t C D E (w.heap.size + 1 + 1) (w.heap.size + 1) w.heap.size (((w.alloc (.cells E t)).alloc (.cells D t)).alloc (.cells C t)).drew := by
  obtain ⟨h1, h2, h3, h4⟩ := box3_a w t E D C
  exact ⟨h1, h4, h3, h2⟩
theorem setm {V : World} {m : Nat} {t : TypeId} {x0 y0 x y : Value} (h : V.heap[m]? = some (.cells #[x0, y0] t (0, 0))) : ((V.setCell ⟨m, 0, none⟩ x).setCell ⟨m, 1, none⟩ y).heap[m]? = some (.cells #[x, y] t (0, 0)) := by
  rw [heap_setCell_same _ m 1 _ _ _ (heap_setCell_same V m 0 _ _ _ h)]
  rfl
theorem below_setm {w V : World} {m : Nat} (h : Below w.heap.size w V) (hm : w.heap.size ≤ m) (x y : Value) : Below w.heap.size w ((V.setCell ⟨m, 0, none⟩ x).setCell ⟨m, 1, none⟩ y) :=
  (((Mod.refl (oneB m) V).set ⟨m, 0, none⟩ x (.inl rfl)).set ⟨m, 1, none⟩ y (.inl rfl)).below h h.size (fun k e => by have e : k = m := e; omega)
theorem MT.kept {w V : World} {base p q r : Nat} {Ac : Option Addr} {cc : Nat} {cs : List ByteArray} {Al : Option Addr} {cl : Nat} {fs : List Fi} (hT : MTwo w base p q r Ac cc cs Al cl fs) (hb : Below w.heap.size w V) : MT w V base p q r Ac cc cs Al cl fs Ac cc (cs ++ []) Al cl fs := by
  unfold MT
  rw [List.append_nil]
  exact TPost.below hT hb
def heldA3 (o : Option Fi) : Array Value := #[heldA o, .bool o.isSome]
set_option maxRecDepth 100000 in
set_option maxHeartbeats 8000000 in
theorem mergeCl_any (base B p q r h : Nat) (n : ByteArray) (o a b : Option Fi) (Ac Al : Option Addr) (cc cl : Nat) (cs : List ByteArray) (fs : List Fi) (w : World) (hT : MTwo w base p q r Ac cc cs Al cl fs) (hr : r < w.heap.size) (hH : HeldB w h 3 [o, a, b]) (ho : BytesO w B o) (ha : BytesO w B a) (hb : BytesO w B b)
    (hlo : (dataO o).length ≤ 1000000) (hla : (dataO a).length ≤ 1000000) (hlb : (dataO b).length ≤ 1000000) (hg : cs.length ≤ 1000000) (hp : fs.length ≤ 1000000) (hB : B ≤ w.heap.size) (hbp : B ≤ base ∧ B ≤ p ∧ B ≤ q) (hba : base ≤ w.heap.size) :
    Calls Try.prog 13 #[.string n, .slice (some ⟨h, 0, none⟩) 3 3, .pointer (some ⟨p, 0, none⟩), .pointer (some ⟨q, 0, none⟩)] w fun e w' => e = .returned (.tuple #[]) ∧
      MPost w base p q r Ac cc cs Al cl fs w' (clashO n o a b) (keptX n (keptO o a b)) := by
  have HSM : Hid (∀ V o1 o2, Below w.heap.size w V → (o1 = o ∨ o1 = a ∨ o1 = b) → (o2 = o ∨ o2 = a ∨ o2 = b) → Calls Try.prog 14 #[heldV o1, heldV o2] V fun e w' => e = .returned (.bool (decide (o1.map Fi.data = o2.map Fi.data))) ∧ Below V.heap.size V w') := fun V o1 o2 hV h1 h2 =>
    same_any o1 o2 B V (fun x hx => by rcases h1 with rfl | rfl | rfl; exact (ho x hx).below hV hB; exact (ha x hx).below hV hB; exact (hb x hx).below hV hB) (fun x hx => by rcases h2 with rfl | rfl | rfl; exact (ho x hx).below hV hB; exact (ha x hx).below hV hB; exact (hb x hx).below hV hB) (Nat.le_trans hB hV.size)
  have HKB : Hid (BytesO w B (keptO o a b) ∧ (dataO (keptO o a b)).length ≤ 1000000) := by
    show _ ∧ _
    unfold keptO
    split
    · exact ⟨ha, hla⟩
    · split
      · exact ⟨hb, hlb⟩
      · exact ⟨ho, hlo⟩
  obtain ⟨h0, h1⟩ := hH.at (i := 0) (o := o) rfl
  obtain ⟨h2, h3⟩ := hH.at (i := 1) (o := a) rfl
  obtain ⟨h4, h5⟩ := hH.at (i := 2) (o := b) rfl
  rw [Nat.zero_mul] at h0 h1
  rw [Nat.one_mul] at h2 h3
  rw [show 2 * 2 = 4 from rfl] at h4 h5
  obtain ⟨A1, c1, ha1, _⟩ := heldA_form o
  obtain ⟨A2, c2, ha2, _⟩ := heldA_form a
  obtain ⟨A3, c3, ha3, _⟩ := heldA_form b
  obtain ⟨l1, hl1⟩ : ∃ l, (dataO o).length = l := ⟨_, rfl⟩
  obtain ⟨l2, hl2⟩ : ∃ l, (dataO a).length = l := ⟨_, rfl⟩
  obtain ⟨l3, hl3⟩ : ∃ l, (dataO b).length = l := ⟨_, rfl⟩
  obtain ⟨t1, ht1⟩ : ∃ t, o.isSome = t := ⟨_, rfl⟩
  obtain ⟨t2, ht2⟩ : ∃ t, a.isSome = t := ⟨_, rfl⟩
  obtain ⟨t3, ht3⟩ : ∃ t, b.isSome = t := ⟨_, rfl⟩
  rw [hl1] at ha1
  rw [hl2] at ha2
  rw [hl3] at ha3
  have E1 : Hid (heldV o = .agg #[.slice A1 l1 c1, .bool t1]) := by show _ = _; unfold heldV; rw [ha1, ht1]
  have E2 : Hid (heldV a = .agg #[.slice A2 l2 c2, .bool t2]) := by show _ = _; unfold heldV; rw [ha2, ht2]
  have E3 : Hid (heldV b = .agg #[.slice A3 l3 c3, .bool t3]) := by show _ = _; unfold heldV; rw [ha3, ht3]
  have F1 : Hid (heldA3 o = #[.slice A1 l1 c1, .bool t1]) := by show _ = _; unfold heldA3; rw [ha1, ht1]
  have F2 : Hid (heldA3 a = #[.slice A2 l2 c2, .bool t2]) := by show _ = _; unfold heldA3; rw [ha2, ht2]
  have F3 : Hid (heldA3 b = #[.slice A3 l3 c3, .bool t3]) := by show _ = _; unfold heldA3; rw [ha3, ht3]
  rw [ha1] at h0
  rw [ht1] at h1
  rw [ha2] at h2
  rw [ht2] at h3
  rw [ha3] at h4
  rw [ht3] at h5
  obtain ⟨hh, hhb⟩ : ∃ cur, w.heap[h]? = some (.cells cur 44 (0, 0)) := by obtain ⟨cur, hb, _⟩ := hH; exact ⟨cur, hb⟩
  have hhl := (Array.getElem?_eq_some_iff.1 hhb).1
  have al : ∀ (k : Nat) (v : Value), w.cell? ⟨h, k, none⟩ = some v → (∀ o, (w.alloc o).cell? ⟨h, k, none⟩ = some v) ∧ (∀ o o2, ((w.alloc o).alloc o2).cell? ⟨h, k, none⟩ = some v) ∧ ∀ o o2 o3, (((w.alloc o).alloc o2).alloc o3).cell? ⟨h, k, none⟩ = some v := fun k v hv => by
    have g1 : ∀ o, (w.alloc o).cell? ⟨h, k, none⟩ = some v := fun o => (World.cell?_alloc_lt w o _ hhl).trans hv
    have g2 : ∀ o o2, ((w.alloc o).alloc o2).cell? ⟨h, k, none⟩ = some v := fun o o2 => (World.cell?_alloc_lt _ o2 _ (by rw [World.size_alloc]; exact Nat.lt_succ_of_lt hhl)).trans (g1 o)
    exact ⟨g1, g2, fun o o2 o3 => (World.cell?_alloc_lt _ o3 _ (by rw [World.size_alloc, World.size_alloc]; exact Nat.lt_succ_of_lt (Nat.lt_succ_of_lt hhl))).trans (g2 o o2)⟩
  obtain ⟨a0, b0, d0⟩ := al _ _ h0
  obtain ⟨a1, b1, d1⟩ := al _ _ h1
  obtain ⟨a2, b2, d2⟩ := al _ _ h2
  obtain ⟨a3, b3, d3⟩ := al _ _ h3
  obtain ⟨a4, b4, d4⟩ := al _ _ h4
  obtain ⟨a5, b5, d5⟩ := al _ _ h5
  have HT := Lib.hid hT
  have HB := Lib.hid hB
  have HR := Lib.hid hr
  have HBA := Lib.hid hba
  have HBP := Lib.hid hbp
  clear al hhb hhl hH ho ha hb ha1 ha2 ha3 hl1 hl2 hl3 ht1 ht2 ht3 hT hB hr hba hlo hla hlb hbp
  go_enter Try.func13, Try.ntmps13
  go_upto_region 0 with fail
  go_cut [6, 7, 8] from 10 to 18 (fun x y z wx => ∃ i j k, x = .pointer (some ⟨i, 0, none⟩) ∧ y = .pointer (some ⟨j, 0, none⟩) ∧ z = .pointer (some ⟨k, 0, none⟩) ∧ Box3 w 44 #[.slice A1 l1 c1, .bool t1] #[.slice A2 l2 c2, .bool t2] #[.slice A3 l3 c3, .bool t3] i j k wx)
  case first =>
    go_region
    all_goals
      go_wp2_with fail
      go_meet
      case rel => first | exact ⟨_, _, _, rfl, rfl, rfl, box3_a _ _ _ _ _⟩ | exact ⟨_, _, _, rfl, rfl, rfl, box3_b _ _ _ _ _⟩ | exact ⟨_, _, _, rfl, rfl, rfl, box3_c _ _ _ _ _⟩ | exact ⟨_, _, _, rfl, rfl, rfl, box3_d _ _ _ _ _⟩ | exact ⟨_, _, _, rfl, rfl, rfl, box3_e _ _ _ _ _⟩ | exact ⟨_, _, _, rfl, rfl, rfl, box3_f _ _ _ _ _⟩
  case rest =>
  obtain ⟨i, j, k, rfl, rfl, rfl, hx⟩ := hcut
  clear h0 h1 h2 h3 h4 h5 a0 a1 a2 a3 a4 a5 b0 b1 b2 b3 b4 b5 d0 d1 d2 d3 d4 d5
  obtain ⟨hbw, bi, bj, bk⟩ := hx
  have HBW := Lib.hid hbw
  have e0 : wc.cell? ⟨i, 0, none⟩ = some (.slice A1 l1 c1) := cell_of_row _ _ 0 _ _ _ bi
  have e1 : wc.cell? ⟨i, 1, none⟩ = some (.bool t1) := cell_of_row _ _ 1 _ _ _ bi
  go_upto_block 0 with fail
  obtain ⟨m, hm⟩ : ∃ m, wc.heap.size = m := ⟨_, rfl⟩
  obtain ⟨W, hW⟩ : ∃ W, wc.alloc (.cells #[.slice A1 l1 c1, .bool t1] 44) = W := ⟨_, rfl⟩
  have hbm : W.heap[m]? = some (.cells #[.slice A1 l1 c1, .bool t1] 44 (0, 0)) := by rw [← hW, ← hm]; exact heap_alloc_new wc _
  have hbW : Below wc.heap.size wc W := by rw [← hW]; exact (Below.refl _ wc).alloc (Nat.le_refl _) _
  have HWW : Hid (Below w.heap.size w W) := HBW.out.trans (hbW.mono HBW.out.size)
  have HMW : Hid (m < W.heap.size ∧ w.heap.size ≤ m) := ⟨(Array.getElem?_eq_some_iff.1 hbm).1, by rw [← hm]; exact HBW.out.size⟩
  have HCW : Hid (∀ V, Below W.heap.size W V → (V.cell? ⟨i, 0, none⟩ = some (.slice A1 l1 c1) ∧ V.cell? ⟨i, 1, none⟩ = some (.bool t1)) ∧ (V.cell? ⟨j, 0, none⟩ = some (.slice A2 l2 c2) ∧ V.cell? ⟨j, 1, none⟩ = some (.bool t2)) ∧ (V.cell? ⟨k, 0, none⟩ = some (.slice A3 l3 c3) ∧ V.cell? ⟨k, 1, none⟩ = some (.bool t3)) ∧
      V.heap[m]? = some (.cells #[.slice A1 l1 c1, .bool t1] 44 (0, 0)) ∧ V.cell? ⟨m, 0, none⟩ = some (.slice A1 l1 c1) ∧ V.cell? ⟨m, 1, none⟩ = some (.bool t1) ∧ V.frozen? ⟨m, 0, none⟩ = false ∧ V.frozen? ⟨m, 1, none⟩ = false) := fun V hV => by
    have keep : ∀ {x : Nat} {C : Array Value}, wc.heap[x]? = some (.cells C 44 (0, 0)) → V.heap[x]? = some (.cells C 44 (0, 0)) := fun {x C} hx => ((hbW.trans (hV.mono hbW.size)).block x (Array.getElem?_eq_some_iff.1 hx).1).trans hx
    have hm' := (hV.block m (Array.getElem?_eq_some_iff.1 hbm).1).trans hbm
    exact ⟨⟨cell_of_row _ _ 0 _ _ _ (keep bi), cell_of_row _ _ 1 _ _ _ (keep bi)⟩, ⟨cell_of_row _ _ 0 _ _ _ (keep bj), cell_of_row _ _ 1 _ _ _ (keep bj)⟩, ⟨cell_of_row _ _ 0 _ _ _ (keep bk), cell_of_row _ _ 1 _ _ _ (keep bk)⟩, hm', cell_of_row _ _ 0 _ _ _ hm', cell_of_row _ _ 1 _ _ _ hm', box_free hm' 0, box_free hm' 1⟩
  rw [hW, hm]
  clear bi bj bk hbw hbm hbW hW hm e0 e1
  go_cut [9] from 20 to 36 (fun x wx => ∃ m' Ac' cc', x = .pointer (some ⟨m', 0, none⟩) ∧ wx.heap[m']? = some (.cells (heldA3 (keptO o a b)) 44 (0, 0)) ∧ MT w wx base p q r Ac cc cs Al cl fs Ac' cc' (cs ++ clashO n o a b) Al cl fs)
  case first =>
    obtain ⟨⟨e0, e1⟩, ⟨f0, f1⟩, ⟨g0, g1⟩, hbm, m0, m1, fm0, fm1⟩ := HCW.out W (Below.refl _ _)
    have HS1 := Lib.hid (HSM.out W a b HWW.out (.inr (.inl rfl)) (.inr (.inr rfl)))
    have HS2 : Hid (∀ V, Below w.heap.size w V → Calls Try.prog 14 #[.agg #[.slice A3 l3 c3, .bool t3], .agg #[.slice A1 l1 c1, .bool t1]] V fun e w' => e = .returned (.bool (decide (b.map Fi.data = o.map Fi.data))) ∧ Below V.heap.size V w') := fun V hV => by
      have := HSM.out V b o hV (.inr (.inr rfl)) (.inl rfl)
      rwa [E3.out, E1.out] at this
    have HS3 : Hid (∀ V, Below w.heap.size w V → Calls Try.prog 14 #[.agg #[.slice A2 l2 c2, .bool t2], .agg #[.slice A1 l1 c1, .bool t1]] V fun e w' => e = .returned (.bool (decide (a.map Fi.data = o.map Fi.data))) ∧ Below V.heap.size V w') := fun V hV => by
      have := HSM.out V a o hV (.inr (.inl rfl)) (.inl rfl)
      rwa [E2.out, E1.out] at this
    rw [E2.out, E3.out] at HS1
    clear hbm
    by_cases hab : a.map Fi.data = b.map Fi.data
    · have HK : Hid (keptO o a b = a ∧ clashO n o a b = []) := ⟨if_pos (.inl hab), if_pos (.inl hab)⟩
      rw [decide_eq_true hab] at HS1
      clear hab
      go_wp2_with (go_at_call 14; refine HS1.out.mono ?_; rintro e w2 ⟨rfl, hb2⟩; have HB2 := Lib.hid hb2; obtain ⟨⟨e0, e1⟩, ⟨f0, f1⟩, ⟨g0, g1⟩, hbm2, m0, m1, fm0, fm1⟩ := HCW.out w2 HB2.out; have HM2 := Lib.hid hbm2; have HX2 := Lib.hid (HWW.out.trans (HB2.out.mono HWW.out.size)); have HT2 := Lib.hid (HT.out.keepN HX2.out); have x2 : w2.cell? ⟨p, 0, none⟩ = some (.slice Ac cs.length cc) := cell_of_row _ _ 0 _ _ _ HT2.out.bp; clear hb2 hbm2)
      go_meet
      case rel =>
        refine ⟨m, Ac, cc, rfl, ?_, ?_⟩
        · rw [HK.out.1, F2.out]; exact setm HM2.out
        · rw [HK.out.2]; exact MT.kept HT.out (below_setm HX2.out HMW.out.2 _ _)
    · rw [decide_eq_false hab] at HS1
      by_cases hbo : b.map Fi.data = o.map Fi.data
      · have HK : Hid (keptO o a b = a ∧ clashO n o a b = []) := ⟨if_pos (.inr hbo), if_pos (.inr hbo)⟩
        rw [decide_eq_true hbo] at HS2
        clear hab hbo
        go_wp2_with (first | (go_at_call 14; refine (HS2.out w2 (HWW.out.trans (HB2.out.mono HWW.out.size))).mono ?_; rintro e w3 ⟨rfl, hb3⟩; have HB3 := Lib.hid (HB2.out.trans (hb3.mono HB2.out.size)); obtain ⟨⟨e0, e1⟩, ⟨f0, f1⟩, ⟨g0, g1⟩, hbm3, m0, m1, fm0, fm1⟩ := HCW.out w3 HB3.out; have HM3 := Lib.hid hbm3; have HX3 := Lib.hid (HWW.out.trans (HB3.out.mono HWW.out.size)); have HT3 := Lib.hid (HT.out.keepN HX3.out); have x3 : w3.cell? ⟨p, 0, none⟩ = some (.slice Ac cs.length cc) := cell_of_row _ _ 0 _ _ _ HT3.out.bp; clear hb3 hbm3) | (go_at_call 14; refine HS1.out.mono ?_; rintro e w2 ⟨rfl, hb2⟩; have HB2 := Lib.hid hb2; obtain ⟨⟨e0, e1⟩, ⟨f0, f1⟩, ⟨g0, g1⟩, hbm2, m0, m1, fm0, fm1⟩ := HCW.out w2 HB2.out; have HM2 := Lib.hid hbm2; have HX2 := Lib.hid (HWW.out.trans (HB2.out.mono HWW.out.size)); have HT2 := Lib.hid (HT.out.keepN HX2.out); have x2 : w2.cell? ⟨p, 0, none⟩ = some (.slice Ac cs.length cc) := cell_of_row _ _ 0 _ _ _ HT2.out.bp; clear hb2 hbm2))
        go_meet
        case rel =>
          refine ⟨m, Ac, cc, rfl, ?_, ?_⟩
          · rw [HK.out.1, F2.out]; exact setm HM3.out
          · rw [HK.out.2]; exact MT.kept HT.out (below_setm HX3.out HMW.out.2 _ _)
      · rw [decide_eq_false hbo] at HS2
        have hno : ¬ (a.map Fi.data = b.map Fi.data ∨ b.map Fi.data = o.map Fi.data) := fun e => e.elim hab hbo
        by_cases hao : a.map Fi.data = o.map Fi.data
        · have HK : Hid (keptO o a b = b ∧ clashO n o a b = []) := ⟨(if_neg hno).trans (if_pos hao), (if_neg hno).trans (if_pos hao)⟩
          rw [decide_eq_true hao] at HS3
          clear hab hbo hno hao
          go_wp2_with (first | (go_at_call 14; refine (HS3.out w3 (HWW.out.trans (HB3.out.mono HWW.out.size))).mono ?_; rintro e w4 ⟨rfl, hb4⟩; have HB4 := Lib.hid (HB3.out.trans (hb4.mono HB3.out.size)); obtain ⟨⟨e0, e1⟩, ⟨f0, f1⟩, ⟨g0, g1⟩, hbm4, m0, m1, fm0, fm1⟩ := HCW.out w4 HB4.out; have HM4 := Lib.hid hbm4; have HX4 := Lib.hid (HWW.out.trans (HB4.out.mono HWW.out.size)); have HT4 := Lib.hid (HT.out.keepN HX4.out); have x4 : w4.cell? ⟨p, 0, none⟩ = some (.slice Ac cs.length cc) := cell_of_row _ _ 0 _ _ _ HT4.out.bp; clear hb4 hbm4) | (go_at_call 14; refine (HS2.out w2 (HWW.out.trans (HB2.out.mono HWW.out.size))).mono ?_; rintro e w3 ⟨rfl, hb3⟩; have HB3 := Lib.hid (HB2.out.trans (hb3.mono HB2.out.size)); obtain ⟨⟨e0, e1⟩, ⟨f0, f1⟩, ⟨g0, g1⟩, hbm3, m0, m1, fm0, fm1⟩ := HCW.out w3 HB3.out; have HM3 := Lib.hid hbm3; have HX3 := Lib.hid (HWW.out.trans (HB3.out.mono HWW.out.size)); have HT3 := Lib.hid (HT.out.keepN HX3.out); have x3 : w3.cell? ⟨p, 0, none⟩ = some (.slice Ac cs.length cc) := cell_of_row _ _ 0 _ _ _ HT3.out.bp; clear hb3 hbm3) | (go_at_call 14; refine HS1.out.mono ?_; rintro e w2 ⟨rfl, hb2⟩; have HB2 := Lib.hid hb2; obtain ⟨⟨e0, e1⟩, ⟨f0, f1⟩, ⟨g0, g1⟩, hbm2, m0, m1, fm0, fm1⟩ := HCW.out w2 HB2.out; have HM2 := Lib.hid hbm2; have HX2 := Lib.hid (HWW.out.trans (HB2.out.mono HWW.out.size)); have HT2 := Lib.hid (HT.out.keepN HX2.out); have x2 : w2.cell? ⟨p, 0, none⟩ = some (.slice Ac cs.length cc) := cell_of_row _ _ 0 _ _ _ HT2.out.bp; clear hb2 hbm2))
          go_meet
          case rel =>
            refine ⟨m, Ac, cc, rfl, ?_, ?_⟩
            · rw [HK.out.1, F3.out]; exact setm HM4.out
            · rw [HK.out.2]; exact MT.kept HT.out (below_setm HX4.out HMW.out.2 _ _)
        · have HK : Hid (keptO o a b = o ∧ clashO n o a b = [n]) := ⟨(if_neg hno).trans (if_neg hao), (if_neg hno).trans (if_neg hao)⟩
          rw [decide_eq_false hao] at HS3
          clear hab hbo hno hao
          go_wp2_with (first | (go_at_call 14; refine (HS3.out w3 (HWW.out.trans (HB3.out.mono HWW.out.size))).mono ?_; rintro e w4 ⟨rfl, hb4⟩; have HB4 := Lib.hid (HB3.out.trans (hb4.mono HB3.out.size)); obtain ⟨⟨e0, e1⟩, ⟨f0, f1⟩, ⟨g0, g1⟩, hbm4, m0, m1, fm0, fm1⟩ := HCW.out w4 HB4.out; have HM4 := Lib.hid hbm4; have HX4 := Lib.hid (HWW.out.trans (HB4.out.mono HWW.out.size)); have HT4 := Lib.hid (HT.out.keepN HX4.out); have x4 : w4.cell? ⟨p, 0, none⟩ = some (.slice Ac cs.length cc) := cell_of_row _ _ 0 _ _ _ HT4.out.bp; clear hb4 hbm4) | (go_at_call 14; refine (HS2.out w2 (HWW.out.trans (HB2.out.mono HWW.out.size))).mono ?_; rintro e w3 ⟨rfl, hb3⟩; have HB3 := Lib.hid (HB2.out.trans (hb3.mono HB2.out.size)); obtain ⟨⟨e0, e1⟩, ⟨f0, f1⟩, ⟨g0, g1⟩, hbm3, m0, m1, fm0, fm1⟩ := HCW.out w3 HB3.out; have HM3 := Lib.hid hbm3; have HX3 := Lib.hid (HWW.out.trans (HB3.out.mono HWW.out.size)); have HT3 := Lib.hid (HT.out.keepN HX3.out); have x3 : w3.cell? ⟨p, 0, none⟩ = some (.slice Ac cs.length cc) := cell_of_row _ _ 0 _ _ _ HT3.out.bp; clear hb3 hbm3) | (go_at_call 14; refine HS1.out.mono ?_; rintro e w2 ⟨rfl, hb2⟩; have HB2 := Lib.hid hb2; obtain ⟨⟨e0, e1⟩, ⟨f0, f1⟩, ⟨g0, g1⟩, hbm2, m0, m1, fm0, fm1⟩ := HCW.out w2 HB2.out; have HM2 := Lib.hid hbm2; have HX2 := Lib.hid (HWW.out.trans (HB2.out.mono HWW.out.size)); have HT2 := Lib.hid (HT.out.keepN HX2.out); have x2 : w2.cell? ⟨p, 0, none⟩ = some (.slice Ac cs.length cc) := cell_of_row _ _ 0 _ _ _ HT2.out.bp; clear hb2 hbm2) | (at_builtin; go_must (skip; refine wpList_app1 w4 strElemP rfl (.tmp 20) (.tmp 22) rfl base (.slice Ac cs.length cc) cs.length _ rfl HT4.out.rp #[.string n] rfl rfl (by intro u hu; simp only [List.mem_cons, List.not_mem_nil, or_false] at hu; subst hu; rfl) (by unfold maxLen; omega) (by omega) (Nat.le_trans HBA.out HX4.out.size) ?_; intro A5 c5 w5 hA; have HA := Lib.hid hA; have hq5 := (Mod.of_app hA).keep HT4.out.bp (fun e => by have := (HT4.out.rp.lt p e).1; have := HT.out.lo; omega); have x5 : w5.cell? ⟨p, 0, none⟩ = some (.slice Ac cs.length cc) := cell_of_row _ _ 0 _ _ _ hq5; have f5 : w5.frozen? ⟨p, 0, none⟩ = false := box_free hq5 0; clear hA hq5)))
          go_meet
          case rel =>
            refine ⟨m, A5, c5, rfl, ?_, ?_⟩
            · rw [HK.out.1, F1.out]
              refine ((Mod.refl (oneB p) w5).set ⟨p, 0, none⟩ _ (.inl rfl)).keep ((Mod.of_app HA.out).keep HM4.out (fun e => ?_)) (fun e => ?_)
              · have := (HT.out.rp.lt m e).2
                have := HMW.out.2
                omega
              · have e : m = p := e
                have := HT.out.lt
                have := HMW.out.2
                omega
            · rw [HK.out.2]
              exact MT.clash n HT.out HR.out HX4.out HA.out
  case rest =>
  obtain ⟨m', Ac', cc', rfl, hbm, hmt⟩ := hcut
  clear HCW HMW HWW HBW HSM E1 E2 E3 F1 F2 F3
  have hbl : Below B w wc := hmt.low.below (Below.refl _ _) HB.out (fun k hk => by have := HBP.out; omega)
  have HMT := Lib.hid hmt
  have HBL := Lib.hid hbl
  clear hbl hmt
  cases hk : keptO o a b with
  | none =>
    have HK := Lib.hid hk
    rw [hk] at hbm
    have c1' : wc.cell? ⟨m', 1, none⟩ = some (.bool false) := cell_of_row _ _ 1 _ _ _ hbm
    clear hk hbm
    go_wp2
    go_end0
    exact ⟨rfl, by rw [HK.out]; exact MPost.of HMT.out⟩
  | some y =>
    have HK := Lib.hid hk
    rw [hk] at hbm HKB
    have c0' : wc.cell? ⟨m', 0, none⟩ = some (.slice y.ad y.data.length y.cp) := cell_of_row _ _ 0 _ _ _ hbm
    have c1' : wc.cell? ⟨m', 1, none⟩ = some (.bool true) := cell_of_row _ _ 1 _ _ _ hbm
    have x0 : wc.cell? ⟨q, 0, none⟩ = some (.slice Al fs.length cl) := cell_of_row _ _ 0 _ _ _ HMT.out.two.bq
    have HCL := Lib.hid (cloneB_any y.ad y.data.length y.cp y.data B wc.drew rfl HKB.out.2 ((HKB.out.1 y rfl).below (Below.drewN HBL.out 1) (Nat.le_refl _)))
    clear hk hbm
    go_wp2
    go_region_law (first
      | (go_simp; go_at_call 15; refine HCL.out.mono ?_; rintro e w5 ⟨A5, c5, rfl, ho5, hb5⟩; have HO5 := Lib.hid ho5; have HB5 := Lib.hid (show Below wc.heap.size wc w5 from ((Below.drewN (Below.refl _ wc) 1).trans hb5)); have HT5 := Lib.hid (HMT.out.two.keepN HB5.out); have x5 : w5.cell? ⟨q, 0, none⟩ = some (.slice Al fs.length cl) := cell_of_row _ _ 0 _ _ _ HT5.out.bq; have y5 : ∀ o, (w5.alloc o).cell? ⟨q, 0, none⟩ = some (.slice Al fs.length cl) := fun o => (World.cell?_alloc_lt w5 o _ (HT5.out.lt.2)).trans x5; clear ho5 hb5)
      | (refine step_app1c w5 fileElem (by rfl) (.tmp 39) (.tmp 45) (by rfl) base (.slice Al fs.length cl) fs.length (fiCells fs) (by rfl) HT5.out.rq #[.string n, .slice A5 y.data.length c5] (by rfl) (by rfl) (by intro u hu; simp only [List.mem_cons, List.not_mem_nil, or_false] at hu; rcases hu with rfl | rfl <;> rfl) (by unfold maxLen; omega) (by omega) (Nat.le_trans HBA.out (Nat.le_trans HMT.out.mod.size HB5.out.size)) ?_; intro A6 c6 w6 hA; have HA := Lib.hid hA; have hq6 := (Mod.of_app hA).keep HT5.out.bq (fun e => by have := (HT5.out.rq.lt q e).1; have := HT.out.lo; omega); have x6 : w6.cell? ⟨q, 0, none⟩ = some (.slice Al fs.length cl) := cell_of_row _ _ 0 _ _ _ hq6; have f6 : w6.frozen? ⟨q, 0, none⟩ = false := box_free hq6 0; clear hA hq6))
    all_goals
      go_wp2
      go_end0
      exact ⟨rfl, by rw [HK.out]; exact MPost.put ⟨n, y.data, A5, c5⟩ HMT.out HR.out HB5.out (Keeps.of_own HO5.out (HMT.out.two.low (Nat.lt_of_lt_of_le HR.out HMT.out.mod.size))) (own_capF HO5.out) HA.out⟩
end Go.Proofs.Ytfnkbpcimbldbaa
