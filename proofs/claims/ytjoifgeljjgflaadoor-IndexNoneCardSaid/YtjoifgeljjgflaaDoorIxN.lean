/- Layer 24: what an index without members tells of a folder: nothing. -/
import Derived.Test.YtjoifgeljjgflaaDoorIxV
import Derived.Test.YtjoifgeljjgflaaDoorRangeN
import Derived.WalkMore
namespace Go.Proofs.YtjoifgeljjgflaaDoor
open Go.RowKit Go.Shelf

theorem fnNil_in {P : Program} (w : World) (d : Nat) (t : TypeId) (ps rs : Array TypeId) (v : Bool) (f : Fn) (ts cs : Array Value) (h : P.underlying t = some (.func ps rs v)) :
    (Op.equalIn (d + 1) t (.func f ts cs) .nilFunc).run P w = .ok false w := by
  simp [Op.equalIn, run_underlying h]
/-- A function that is there held against nil. -/
theorem fnNil_run {P : Program} (w : World) (t : TypeId) (ps rs : Array TypeId) (v : Bool) (f : Fn) (ts cs : Array Value) (h : P.underlying t = some (.func ps rs v)) :
    (binOp .eql t (.func f ts cs) .nilFunc).run P w = .ok (.bool false) w := by
  simp only [binOp]
  simp [Op.equal, Op.maxDepth, fnNil_in w 9999 t ps rs v f ts cs h]
/-- An iterator of members over a row that is nil. -/
def NilSeq (w : World) (b : Nat) : Prop := Box w b #[.slice none 0 0] 22
set_option maxHeartbeats 1000000 in
theorem vals_none (y : Value) (b : Nat) (w : World) (h : NilSeq w b) :
    Calls Tryd.prog 47 #[y, .pointer (some ⟨b, 0, none⟩)] w fun e w' => e = .returned (.tuple #[]) ∧ w = w' := by
  have c0 : w.cell? ⟨b, 0, none⟩ = some (.slice none 0 0) := Box.cell h 0
  clear h
  go_enter Tryd.func47, Tryd.ntmps47
  go_wp2
  go_loopg [7] 1 (fun gk i wr => gk = 1 ∧ i = .int .i64 0 ∧ wr = w)
  case atStart => exact ⟨rfl, rfl, rfl⟩
  case round =>
    obtain ⟨rfl, rfl, rfl⟩ := hrel
    go_wp2
    refine bodyPost_end (results_none rfl _ _ _) rfl ⟨rfl, rfl⟩
set_option maxHeartbeats 400000 in
theorem values_nil (w : World) : Calls Tryd.prog 39 #[.slice none 0 0] w fun e w' => e = .returned (.func (.func 47) #[] #[.pointer (some ⟨w.heap.size, 0, none⟩)]) ∧ NilSeq w' w.heap.size ∧ Below w.heap.size w w' := by
  have HB := Lib.hid ((Below.refl w.heap.size w).alloc (Nat.le_refl _) (.cells #[.slice none 0 0] 22))
  go_enter Tryd.func39, Tryd.ntmps39
  go_wp2
  go_ret
  exact ⟨rfl, heap_alloc_new w _, HB.out⟩

/-- An index that isn't there, or a zero one. -/
def IxNil (w : World) (p : Option Addr) : Prop := p = none ∨ ∃ base g, p = some ⟨g, 0, none⟩ ∧ LX w base g none 0 []
theorem IxNil.below {w w' : World} {p : Option Addr} {B : Nat} (h : IxNil w p) (hb : Below B w w') (hB : B = w.heap.size) : IxNil w' p := by
  rcases h with h | ⟨base, g, h1, h2⟩
  · exact .inl h
  · exact .inr ⟨base, g, h1, h2.below hb hB⟩
theorem nilPlace_any (p : Option Addr) (s : ByteArray) (w : World) (h : IxNil w p) : Calls Tryd.prog 40 #[.pointer p, .string s] w fun e w' => e = .returned (.tuple #[.int .i64 0, .bool false]) ∧ Below w.heap.size w w' := by
  rcases h with rfl | ⟨base, g, rfl, h2⟩
  · exact ixPlace_nil s w
  · exact ixPlace_any base g none 0 [] s w h2
theorem nilMembers_any (p : Option Addr) (w : World) (h : IxNil w p) : Calls Tryd.prog 34 #[.pointer p] w fun e w' => e = .returned (.slice none 0 0) ∧ w = w' := by
  rcases h with rfl | ⟨base, g, rfl, h2⟩
  · exact ixMembers_nil w
  · exact ixMembers_any base g none 0 [] w h2
set_option maxHeartbeats 1000000 in
theorem nilFrom_any (p : Option Addr) (s : ByteArray) (w : World) (h : IxNil w p) : Calls Tryd.prog 37 #[.pointer p, .string s] w fun e w' => ∃ b, e = .returned (.func (.func 47) #[] #[.pointer (some ⟨b, 0, none⟩)]) ∧ NilSeq w' b ∧ w.heap.size ≤ b ∧ Below w.heap.size w w' := by
  have HP := Lib.hid (nilPlace_any p s w h)
  have HM := Lib.hid (fun W (hW : Below w.heap.size w W) => nilMembers_any p W (h.below hW rfl))
  have HV := Lib.hid (fun W => values_nil W)
  clear h
  go_enter Tryd.func37, Tryd.ntmps37
  go_wp2_with (first
    | (go_at_call 40; refine HP.out.mono ?_; rintro e w1 ⟨rfl, hbel⟩; have HB1 := Lib.hid hbel; clear hbel HP)
    | (go_at_call 34; refine (HM.out _ HB1.out).mono ?_; rintro e w2 ⟨rfl, rfl⟩; clear HM)
    | (go_at_call 39; refine (HV.out _).mono ?_; rintro e w3 ⟨rfl, hq, hbel⟩; have HQ := Lib.hid hq; have HB3 := Lib.hid (HB1.out.trans (hbel.mono HB1.out.size)); clear hq hbel HV))
  go_ret
  exact ⟨_, rfl, HQ.out, HB1.out.size, HB3.out⟩

theorem below_put {B : Nat} {w W : World} {k : Nat} (h : Below B w W) (hk : B ≤ k) (o : Obj) : Below B w (W.putObj k o) := h.trans ⟨rfl, rfl, rfl, by simp [World.putObj], fun j hj => World.putObj_heap_other (by omega)⟩
set_option maxRecDepth 100000 in
set_option maxHeartbeats 2000000 in
theorem nilEach_any (p : Option Addr) (s : ByteArray) (w : World) (h : IxNil w p) : Calls Tryd.prog 19 #[.pointer p, .string s] w fun e w' => ∃ b, e = .returned (.func (.func 47) #[] #[.pointer (some ⟨b, 0, none⟩)]) ∧ NilSeq w' b ∧ w.heap.size ≤ b ∧ Below w.heap.size w w' := by
  obtain ⟨W0, hW0⟩ : ∃ W0, w.alloc (.cells #[.string s] 9) = W0 := ⟨_, rfl⟩
  obtain ⟨W1, hW1⟩ : ∃ W1, W0.alloc (.cells #[.slice none 0 0] 22) = W1 := ⟨_, rfl⟩
  have hb1 : Below w.heap.size w W1 := by rw [← hW1, ← hW0]; exact ((Below.refl _ w).alloc (Nat.le_refl _) _).alloc (by simp) _
  have hz0 : W0.heap.size = w.heap.size + 1 := by rw [← hW0]; simp
  have hz1 : W1.heap.size = w.heap.size + 2 := by rw [← hW1]; simp [hz0]
  have HF := Lib.hid (nilFrom_any p s W1 (h.below hb1 rfl))
  have HX1 : Hid (Box W1 (w.heap.size + 1) #[.slice none 0 0] 22) := by rw [← hW1, ← hz0]; exact heap_alloc_new W0 _
  have HS1 : Hid (Box W1 w.heap.size #[.string s] 9) := by rw [← hW1]; refine Box.alloc ?_ _; rw [← hW0]; exact heap_alloc_new w _
  have b0 : W1.cell? ⟨w.heap.size, 0, none⟩ = some (.string s) := HS1.out.cell 0
  have HB1 := Lib.hid hb1
  have HZ1 := Lib.hid hz1
  have HV := Lib.hid (fun W => values_nil W)
  clear h hb1
  refine (callsIn_wide (n := 6)).1 ?_
  refine callsIn_of_wp_marks Tryd.func19 rfl trivial ?_ rfl
  simp only [Tryd.ntmps19, List.size_toArray, List.length_cons, List.length_nil, Nat.reduceAdd, Nat.reduceSub, Array.replicate_succ, Array.replicate_zero, List.push_toArray, List.append_toArray, List.nil_append, List.cons_append]
  refine wpIn_wide.2 ?_
  go_wp2
  repeat (go_step3; go_wp2_with (go_at_call 37; refine HF.out.mono ?_; rintro e w2 ⟨b, rfl, hq, hbge, hbel⟩; have HQ := Lib.hid hq; have HB2 := Lib.hid hbel; have HBG := Lib.hid hbge; clear hq hbge hbel HF))
  refine (wpIn_wide (n := 6)).1 ?_
  have HX2 := Lib.hid (HX1.out.below HB2.out HX1.out.lt)
  have hz2 := HB2.out.size
  have hbs : b < w2.heap.size := Box.lt HQ.out
  have hL2 : Hid (Below w.heap.size w w2) := HB1.out.trans (HB2.out.mono (by have := HZ1.out; omega))
  refine wpIn_rangeFunc_none rfl (by omega) (gf := 47) (lb := #[.pointer (some ⟨b, 0, none⟩)]) rfl trivial (enters_of Tryd.func47 (by kernel_rfl) rfl)
    (R := fun W => Box W (w.heap.size + 1) #[.slice none 0 0] 22 ∧ Below w.heap.size w W) ?call ?done
  case call =>
    intro o W ho hW
    have hbw : Below w2.heap.size w2 W := by rw [← hW]; exact ((Below.refl _ w2).alloc (Nat.le_refl _) _).alloc (by simp) _
    refine (callsIn_wide.2 (vals_none _ b W (Box.below HQ.out hbw hbs))).mono ?_
    rintro e W' ⟨rfl, rfl⟩
    exact ⟨⟨_, rfl⟩, ⟨HX2.out.below hbw HX2.out.lt, hL2.out.trans (hbw.mono (by have := HZ1.out; omega))⟩, rfl, rfl⟩
  case done =>
    rintro W o o' ⟨hbx, hbl⟩ hd hl ho
    obtain ⟨W4, hW4⟩ : ∃ W4, W.putObj (w2.heap.size + 1) o' = W4 := ⟨_, rfl⟩
    have hz1 := HZ1.out
    have hoth : ∀ k, k ≠ w2.heap.size + 1 → W4.heap[k]? = W.heap[k]? := fun k hk => by rw [← hW4]; exact World.putObj_heap_other (by omega)
    have HL4 : Hid (Below w.heap.size w W4) := by show Below _ _ _; rw [← hW4]; exact below_put hbl (by omega) _
    have HC4 : Hid (Box W4 (w.heap.size + 1) #[.slice none 0 0] 22) := (hoth _ (by omega)).trans hbx
    have HD4 : Hid (W4.heap[w2.heap.size]? = some (.deferred (some []))) := (hoth _ (by omega)).trans hd
    have hx5 : W4.cell? ⟨w.heap.size + 1, 0, none⟩ = some (.slice none 0 0) := HC4.out.cell 0
    rw [hW4]
    clear hbx hbl hd hl ho hoth hW4
    go_wp2
    rw [Exit.noGoto_ret]
    obtain ⟨W5, hW5⟩ : ∃ W5, W4.alloc (.cells #[.slice none 0 0] 22) = W5 := ⟨_, rfl⟩
    have hd5 : W5.heap[w2.heap.size]? = some (.deferred (some [])) := by rw [← hW5]; exact (Below.heap_alloc W4 _ _ (Array.getElem?_eq_some_iff.1 HD4.out).1).trans HD4.out
    have hq5 : NilSeq W5 W4.heap.size := by rw [← hW5]; exact heap_alloc_new W4 _
    have hl5 : Below w.heap.size w W5 := by rw [← hW5]; exact HL4.out.alloc HL4.out.size _
    have hlt5 := Box.lt hq5
    have hlt4 : w2.heap.size < W4.heap.size := (Array.getElem?_eq_some_iff.1 HD4.out).1
    rw [hW5]
    refine ⟨by simp, .inl ⟨_, _, rfl, run_takeDeferred hd5, ?_⟩⟩
    refine ⟨_, results_tmp rfl _ _ _, W4.heap.size, rfl, ?_, by have := HL4.out.size; omega, below_put hl5 (by omega) _⟩
    exact (World.putObj_heap_other (by omega)).trans hq5
set_option maxRecDepth 100000 in
set_option maxHeartbeats 2000000 in
theorem nilUnder_any (p : Option Addr) (s : ByteArray) (w : World) (h : IxNil w p) : Calls Tryd.prog 18 #[.pointer p, .string s] w fun e w' => e = .returned (.slice none 0 0) ∧ Below w.heap.size w w' := by
  obtain ⟨W1, hW1⟩ : ∃ W1, w.alloc (.cells #[.slice none 0 0] 45) = W1 := ⟨_, rfl⟩
  have hb1 : Below w.heap.size w W1 := by rw [← hW1]; exact (Below.refl _ w).alloc (Nat.le_refl _) _
  have hz1 : W1.heap.size = w.heap.size + 1 := by rw [← hW1]; simp
  have HF := Lib.hid (nilEach_any p s W1 (h.below hb1 rfl))
  have HX1 : Hid (Box W1 w.heap.size #[.slice none 0 0] 45) := by rw [← hW1]; exact heap_alloc_new w _
  have HB1 := Lib.hid hb1
  have HZ1 := Lib.hid hz1
  clear h hb1
  refine (callsIn_wide (n := 6)).1 ?_
  refine callsIn_of_wp_marks Tryd.func18 rfl trivial ?_ rfl
  simp only [Tryd.ntmps18, List.size_toArray, List.length_cons, List.length_nil, Nat.reduceAdd, Nat.reduceSub, Array.replicate_succ, Array.replicate_zero, List.push_toArray, List.append_toArray, List.nil_append, List.cons_append]
  refine wpIn_wide.2 ?_
  go_wp2_with (go_at_call 19; refine HF.out.mono ?_; rintro e w2 ⟨b, rfl, hq, hbge, hbel⟩; have HQ := Lib.hid hq; have HB2 := Lib.hid hbel; have HBG := Lib.hid hbge; clear hq hbge hbel HF)
  refine (wpIn_wide (n := 6)).1 ?_
  have HX2 := Lib.hid (HX1.out.below HB2.out HX1.out.lt)
  have hz2 := HB2.out.size
  have hbs : b < w2.heap.size := Box.lt HQ.out
  have hL2 : Hid (Below w.heap.size w w2) := HB1.out.trans (HB2.out.mono (by have := HZ1.out; omega))
  refine wpIn_rangeFunc_none rfl (by omega) (gf := 47) (lb := #[.pointer (some ⟨b, 0, none⟩)]) rfl trivial (enters_of Tryd.func47 (by kernel_rfl) rfl)
    (R := fun W => Box W w.heap.size #[.slice none 0 0] 45 ∧ Below w.heap.size w W) ?call ?done
  case call =>
    intro o W ho hW
    have hbw : Below w2.heap.size w2 W := by rw [← hW]; exact ((Below.refl _ w2).alloc (Nat.le_refl _) _).alloc (by simp) _
    refine (callsIn_wide.2 (vals_none _ b W (Box.below HQ.out hbw hbs))).mono ?_
    rintro e W' ⟨rfl, rfl⟩
    exact ⟨⟨_, rfl⟩, ⟨HX2.out.below hbw HX2.out.lt, hL2.out.trans (hbw.mono (by have := HZ1.out; omega))⟩, rfl, rfl⟩
  case done =>
    rintro W o o' ⟨hbx, hbl⟩ hd hl ho
    obtain ⟨W4, hW4⟩ : ∃ W4, W.putObj (w2.heap.size + 1) o' = W4 := ⟨_, rfl⟩
    have hz1 := HZ1.out
    have hoth : ∀ k, k ≠ w2.heap.size + 1 → W4.heap[k]? = W.heap[k]? := fun k hk => by rw [← hW4]; exact World.putObj_heap_other (by omega)
    have HL4 : Hid (Below w.heap.size w W4) := by show Below _ _ _; rw [← hW4]; exact below_put hbl (by omega) _
    have HC4 : Hid (Box W4 w.heap.size #[.slice none 0 0] 45) := (hoth _ (by omega)).trans hbx
    have HD4 : Hid (W4.heap[w2.heap.size]? = some (.deferred (some []))) := (hoth _ (by omega)).trans hd
    have hx5 : W4.cell? ⟨w.heap.size, 0, none⟩ = some (.slice none 0 0) := HC4.out.cell 0
    rw [hW4]
    clear hbx hbl hd hl ho hoth hW4
    go_wp2
    refine ⟨by simp, .inl ⟨_, _, rfl, run_takeDeferred HD4.out, ?_⟩⟩
    exact ⟨_, results_tmp rfl _ _ _, rfl, below_put HL4.out (by omega) _⟩
end Go.Proofs.YtjoifgeljjgflaaDoor
