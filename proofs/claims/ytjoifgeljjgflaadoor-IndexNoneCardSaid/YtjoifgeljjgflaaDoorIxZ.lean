/- Layer 24: what is put into an index, what is dropped, and how one is made. -/
import Derived.Test.YtjoifgeljjgflaaDoorIxY
import Derived.Deep.RegionHeld3
import Derived.Deep.RegionWith
namespace Go.Proofs.YtjoifgeljjgflaaDoor
open Go.RowKit

set_option maxHeartbeats 1000000 in
theorem ixGet_nil (s : ByteArray) (w : World) :
    Calls Tryd.prog 21 #[.pointer none, .string s] w fun e w' => e = .returned (.tuple #[aggM LM.zero, .bool false]) ∧ Below w.heap.size w w' := by
  obtain ⟨W0, hW0⟩ : ∃ W0, w.alloc (.cells #[.string ⟨#[]⟩, .int .i64 0, .int .i64 0, .int .i64 0, .int .i64 0, .int .u32 0, .int .i64 0] 32) = W0 := ⟨_, rfl⟩
  have HB0 : Hid (Below w.heap.size w W0) := by rw [← hW0]; exact (Below.refl _ w).alloc (Nat.le_refl _) _
  have HX0 : Hid (Box W0 w.heap.size #[.string ⟨#[]⟩, .int .i64 0, .int .i64 0, .int .i64 0, .int .i64 0, .int .u32 0, .int .i64 0] 32) := by rw [← hW0]; exact heap_alloc_new w _
  have HP := Lib.hid (ixPlace_nil s W0)
  go_enter Tryd.func21, Tryd.ntmps21
  go_wp2_with ((go_at_call 40; refine HP.out.mono ?_; rintro e w' ⟨rfl, hbel⟩; have HBL := Lib.hid (HB0.out.trans (hbel.mono HB0.out.size)); have HX1 := Lib.hid (HX0.out.below hbel HX0.out.lt); clear hbel HP; obtain ⟨q0, q1, q2, q3, q4, q5, q6, f0, f1, f2, f3, f4, f5, f6⟩ := box7 HX1.out))
  refine bodyPost_ret (v := .tuple #[aggM LM.zero, .bool false]) ?_ rfl ⟨rfl, ?_⟩
  · rw [results_cell_tmp rfl]
    go_simp
    simp [LM.zero]
  · iterate 7 (refine Below.setCell ?_ ?_ _; rotate_left; exact Nat.le_refl _)
    exact HBL.out

/-- Is there room for a name? -/
def roomM (ms : List LM) (s : ByteArray) : Bool := hasK LM.nm ms s || decide (ms.length < 200)
set_option maxHeartbeats 1000000 in
theorem ixRoom_any (base g : Nat) (A : Option Addr) (c : Nat) (ms : List LM) (s : ByteArray) (w : World) (h : LX w base g A c ms) :
    Calls Tryd.prog 24 #[.pointer (some ⟨g, 0, none⟩), .string s] w fun e w' => e = .returned (.bool (roomM ms s)) ∧ Below w.heap.size w w' := by
  have HP := Lib.hid (ixPlace_any base g A c ms s w h)
  have HL := Lib.hid (fun W (hW : Below w.heap.size w W) => ixLen_any base g A c ms W (h.below hW rfl))
  obtain ⟨t, ht⟩ : ∃ t, hasK LM.nm ms s = t := ⟨_, rfl⟩
  rw [ht] at HP
  have HR : Hid (roomM ms s = (t || decide (ms.length < 200))) := by show _ = _; unfold roomM; rw [ht]
  clear h ht
  rw [HR.out]
  cases t with
  | true =>
    go_enter Tryd.func24, Tryd.ntmps24
    go_wp2_with ((go_at_call 40; refine HP.out.mono ?_; rintro e w' ⟨rfl, hbel⟩; have HBL := Lib.hid hbel; clear hbel HP))
    go_ret
    exact ⟨rfl, HBL.out⟩
  | false =>
    go_enter Tryd.func24, Tryd.ntmps24
    go_wp2_with (first
      | (go_at_call 40; refine HP.out.mono ?_; rintro e w' ⟨rfl, hbel⟩; have HBL := Lib.hid hbel; clear hbel HP)
      | (go_at_call 12; refine (HL.out _ HBL.out).mono ?_; rintro e w' ⟨rfl, rfl⟩; clear HL))
    go_ret
    exact ⟨congrArg (fun b => Ending.returned (.bool b)) (by rw [Bool.false_or]; exact decide_eq_decide.2 (by omega)), HBL.out⟩
set_option maxHeartbeats 400000 in
theorem ixRoom_nil (s : ByteArray) (w : World) :
    Calls Tryd.prog 24 #[.pointer none, .string s] w fun e w' => e = .returned (.bool false) ∧ w = w' := by
  go_enter Tryd.func24, Tryd.ntmps24
  go_wp2
  go_ret
  exact ⟨rfl, rfl⟩

/-- What a change of an index leaves: it has these members; its own old blocks alone may have changed. -/
structure IxTo (w : World) (base g : Nat) (A : Option Addr) (n c : Nat) (ms' : List LM) (w' : World) (A' : Option Addr) (c' : Nat) : Prop where
  ix : LX w' base g A' c' ms'
  mod : Mod (ixS g A n c) w w'
  place : ∀ k, ownS (.slice A' ms'.length c') k → ownS (.slice A n c) k ∨ w.heap.size ≤ k
theorem IxTo.stay {w w' : World} {base g : Nat} {A : Option Addr} {c : Nat} {ms : List LM} (h : LX w base g A c ms) (hb : Below w.heap.size w w') : IxTo w base g A ms.length c ms w' A c :=
  ⟨h.below hb rfl, (Mod.of_below hb).mono (fun _ hk => hk.elim), fun _ hk => .inl hk⟩

theorem IxTo.set {w w1 w2 : World} {base g : Nat} {A A' : Option Addr} {c c' : Nat} {ms ms' : List LM} (hx : LX w1 base g A c ms) (hb : Below w.heap.size w w1) (ha : App w1 base 32 7 (.slice A ms.length c) ms'.length (memCells ms') w2 (.slice A' ms'.length c'))
    (hf : ms'.length ≤ 1000) (hr : RisM ms') : IxTo w base g A ms.length c ms' (w2.setCell ⟨g, 0, none⟩ (.slice A' ms'.length c')) A' c' := by
  have hbx : Box w2 g #[.slice A ms.length c] 57 := hx.box.mod (Mod.of_app ha) hx.apart
  have hne : ¬ ownS (.slice A' ms'.length c') g := own_ne ha.own hbx (by decide)
  refine ⟨⟨heap_setCell_same w2 g 0 _ _ _ hbx, own_keep ha.own ((Mod.refl (oneB g) w2).set ⟨g, 0, none⟩ _ (.inl rfl)) (fun k hk hg => hne (by have : k = g := hg; subst this; exact hk)), hx.low, hf, hr⟩, ?_, fun k hk => ?_⟩
  · exact (((Mod.of_below hb).mono (T := ixS g A ms.length c) (fun _ hk => hk.elim)).then_ ((Mod.of_app ha).mono (fun _ hk => .inr hk))).set _ _ (.inl (.inl rfl))
  · rcases ha.place k hk with h | h
    · exact .inl h
    · exact .inr (Nat.le_trans hb.size h)
set_option maxHeartbeats 1000000 in
theorem ixDrop_not (base g : Nat) (A : Option Addr) (c : Nat) (ms : List LM) (s : ByteArray) (w : World) (h : LX w base g A c ms) (ht : hasK LM.nm ms s = false) :
    Calls Tryd.prog 23 #[.pointer (some ⟨g, 0, none⟩), .string s] w fun e w' => e = .returned (.bool false) ∧ Below w.heap.size w w' := by
  have HP := Lib.hid (ixPlace_any base g A c ms s w h)
  rw [ht] at HP
  clear h ht
  go_enter Tryd.func23, Tryd.ntmps23
  go_wp2_with ((go_at_call 40; refine HP.out.mono ?_; rintro e w' ⟨rfl, hbel⟩; have HBL := Lib.hid hbel; clear hbel HP))
  go_ret
  exact ⟨rfl, HBL.out⟩
set_option maxHeartbeats 1000000 in
theorem ixDrop_nil (s : ByteArray) (w : World) :
    Calls Tryd.prog 23 #[.pointer none, .string s] w fun e w' => e = .returned (.bool false) ∧ Below w.heap.size w w' := by
  have HP := Lib.hid (ixPlace_nil s w)
  go_enter Tryd.func23, Tryd.ntmps23
  go_wp2_with ((go_at_call 40; refine HP.out.mono ?_; rintro e w' ⟨rfl, hbel⟩; have HBL := Lib.hid hbel; clear hbel HP))
  go_ret
  exact ⟨rfl, HBL.out⟩

set_option maxRecDepth 100000 in
set_option maxHeartbeats 2000000 in
theorem ixDrop_yes (base g : Nat) (A : Option Addr) (c : Nat) (ms : List LM) (s : ByteArray) (w : World) (h : LX w base g A c ms) (ht : hasK LM.nm ms s = true) :
    Calls Tryd.prog 23 #[.pointer (some ⟨g, 0, none⟩), .string s] w fun e w' => ∃ A' c', e = .returned (.bool true) ∧ IxTo w base g A ms.length c (outK LM.nm ms s) w' A' c' := by
  have HP := Lib.hid (ixPlace_any base g A c ms s w h)
  rw [ht] at HP
  have HH := Lib.hid h
  obtain ⟨x, hx, _⟩ := hasK_there h.ris ht
  have hlt := (List.getElem?_eq_some_iff.1 hx).1
  have HOUT := Lib.hid (out_there h.ris ht)
  have HLEN := Lib.hid (len_outK_there h.ris ht)
  have HRIS := Lib.hid (h.ris.outK s)
  have hfew := h.few
  obtain ⟨p, hp⟩ : ∃ p, posK LM.nm ms s = p := ⟨_, rfl⟩
  rw [hp] at HP HOUT hlt
  obtain ⟨g', c', he⟩ : ∃ g' c', Value.slice A ms.length c = .slice (some ⟨g', 0, none⟩) ms.length c' := by
    rcases ownK_form h.own with ⟨_, h0⟩ | ⟨g', c', he⟩
    · omega
    · exact ⟨g', c', he⟩
  injection he with hA _ hc
  subst hA hc
  obtain ⟨l, hl⟩ : ∃ l, ms.length = l := ⟨_, rfl⟩
  have HL := Lib.hid hl
  have HD := Lib.hid (fun W (hW : Below w.heap.size w W) => delM_any base g' l c p (memCells ms) W (by rw [← hl]; exact (h.below hW rfl).own) (memsOne ms) (by omega) (by omega))
  have HNE : Hid (g' ≠ g) := fun e => h.apart (by subst e; rfl)
  rw [hl] at hfew hlt
  have hpi : (p : Int) < (l : Int) := by omega
  have hw1 : IntKind.i64.wrap ((p : Int) + 1) = (p : Int) + 1 := IntWalk.i64_in _ (by omega)
  clear h ht hx hp hl
  go_enter Tryd.func23, Tryd.ntmps23
  go_wp2_with (first
    | (go_at_call 40; refine HP.out.mono ?_; rintro e w' ⟨rfl, hbel⟩; have HBL := Lib.hid hbel; have HX1 := Lib.hid (HH.out.below hbel rfl); have b0 : w'.cell? ⟨g, 0, none⟩ = some (.slice (some ⟨g', 0, none⟩) l c) := by { have := HX1.out.box.cell 0; rw [HL.out] at this; exact this }; clear hbel HP)
    | (go_at_call 43; refine (HD.out _ HBL.out).mono ?_; rintro e w2 ⟨rfl, happ⟩; have HAP := Lib.hid happ; have HBX := Lib.hid (HX1.out.box.mod (Mod.of_app happ) HX1.out.apart); have z0 : w2.cell? ⟨g, 0, none⟩ = _ := HBX.out.cell 0; have z1 := box_free HBX.out 0; clear happ HD))
  go_ret
  have hl := HL.out
  have hlen := HLEN.out
  have hn : l - 1 = (outK LM.nm ms s).length := by omega
  have e : (memCells ms).take (p * 7) ++ (memCells ms).drop ((p + 1) * 7) = memCells (outK LM.nm ms s) := by
    unfold memCells
    rw [memCells_take, memCells_drop, ← List.flatten_append, ← List.map_append, HOUT.out]
  have ha := HAP.out
  rw [e, hn, ← hl] at ha
  refine ⟨some ⟨g', 0, none⟩, c, rfl, ?_⟩
  rw [hn]
  exact IxTo.set HX1.out HBL.out ha (by omega) HRIS.out

set_option maxHeartbeats 1000000 in
theorem ixPut_bad (g : Nat) (m : LM) (w : World) (hm : m.nm.size ≤ maxLen) (ht : m.B = false) :
    Calls Tryd.prog 22 #[.pointer (some ⟨g, 0, none⟩), aggM m] w fun e w' => e = .returned (.int .i64 1) ∧ Below w.heap.size w w' := by
  obtain ⟨W0, hW0⟩ : ∃ W0, w.alloc (.cells #[.string m.nm, .int .i64 m.at_, .int .i64 m.fr, .int .i64 m.ar, .int .i64 m.sz, .int .u32 m.su, .int .i64 m.me] 32) = W0 := ⟨_, rfl⟩
  have HB0 : Hid (Below w.heap.size w W0) := by rw [← hW0]; exact (Below.refl _ w).alloc (Nat.le_refl _) _
  have HX0 : Hid (Box W0 w.heap.size #[.string m.nm, .int .i64 m.at_, .int .i64 m.fr, .int .i64 m.ar, .int .i64 m.sz, .int .u32 m.su, .int .i64 m.me] 32) := by rw [← hW0]; exact heap_alloc_new w _
  have HP := Lib.hid (enRight_any m.nm m.at_ m.fr m.ar m.sz m.su m.me W0 hm)
  rw [show memB m.nm m.at_ m.fr m.ar m.sz m.me = false from ht] at HP
  obtain ⟨q0, q1, q2, q3, q4, q5, q6, f0, f1, f2, f3, f4, f5, f6⟩ := box7 HX0.out
  clear ht
  go_enter Tryd.func22, Tryd.ntmps22
  go_wp2_with ((go_at_call 41; refine HP.out.mono ?_; rintro e w' ⟨rfl, hbel⟩; have HBL := Lib.hid (HB0.out.trans (hbel.mono HB0.out.size)); clear hbel HP))
  go_ret
  exact ⟨rfl, HBL.out⟩
set_option maxHeartbeats 1000000 in
theorem ixPut_nil (m : LM) (w : World) :
    Calls Tryd.prog 22 #[.pointer none, aggM m] w fun e w' => e = .returned (.int .i64 1) ∧ Below w.heap.size w w' := by
  have HB0 := fun o => Lib.hid ((Below.refl w.heap.size w).alloc (Nat.le_refl _) o)
  go_enter Tryd.func22, Tryd.ntmps22
  go_wp2
  go_ret
  exact ⟨rfl, (HB0 _).out⟩
set_option maxHeartbeats 1000000 in
theorem ixPut_full (base g : Nat) (A : Option Addr) (c : Nat) (ms : List LM) (m : LM) (w : World) (h : LX w base g A c ms) (hm : m.nm.size ≤ maxLen) (ht : m.B = true) (hr : roomM ms m.nm = false) :
    Calls Tryd.prog 22 #[.pointer (some ⟨g, 0, none⟩), aggM m] w fun e w' => e = .returned (.int .i64 14) ∧ Below w.heap.size w w' := by
  obtain ⟨W0, hW0⟩ : ∃ W0, w.alloc (.cells #[.string m.nm, .int .i64 m.at_, .int .i64 m.fr, .int .i64 m.ar, .int .i64 m.sz, .int .u32 m.su, .int .i64 m.me] 32) = W0 := ⟨_, rfl⟩
  have HB0 : Hid (Below w.heap.size w W0) := by rw [← hW0]; exact (Below.refl _ w).alloc (Nat.le_refl _) _
  have HX0 : Hid (Box W0 w.heap.size #[.string m.nm, .int .i64 m.at_, .int .i64 m.fr, .int .i64 m.ar, .int .i64 m.sz, .int .u32 m.su, .int .i64 m.me] 32) := by rw [← hW0]; exact heap_alloc_new w _
  have HP := Lib.hid (enRight_any m.nm m.at_ m.fr m.ar m.sz m.su m.me W0 hm)
  rw [show memB m.nm m.at_ m.fr m.ar m.sz m.me = true from ht] at HP
  have HR := Lib.hid (fun W (hW : Below w.heap.size w W) => ixRoom_any base g A c ms m.nm W (h.below hW rfl))
  rw [hr] at HR
  obtain ⟨q0, q1, q2, q3, q4, q5, q6, f0, f1, f2, f3, f4, f5, f6⟩ := box7 HX0.out
  clear h ht hr
  go_enter Tryd.func22, Tryd.ntmps22
  go_wp2_with (first
    | (go_at_call 41; refine HP.out.mono ?_; rintro e w' ⟨rfl, hbel⟩; have HBL := Lib.hid (HB0.out.trans (hbel.mono HB0.out.size)); have HX1 := Lib.hid (HX0.out.below hbel HX0.out.lt); obtain ⟨r0, r1, r2, r3, r4, r5, r6, _⟩ := box7 HX1.out; clear hbel HP)
    | (go_at_call 24; refine (HR.out _ HBL.out).mono ?_; rintro e w2 ⟨rfl, hbel⟩; have HBL2 := Lib.hid (HBL.out.trans (hbel.mono HBL.out.size)); clear hbel HR))
  go_ret
  exact ⟨rfl, HBL2.out⟩

theorem memCells_len (ms : List LM) : (memCells ms).length = ms.length * 7 := mems_len ms
set_option linter.unusedSimpArgs false in
set_option maxRecDepth 100000 in
set_option maxHeartbeats 4000000 in
theorem ixPut_new (base g : Nat) (A : Option Addr) (c : Nat) (ms : List LM) (m : LM) (w : World) (h : LX w base g A c ms) (hm : m.nm.size ≤ maxLen) (ht : m.B = true) (hr : roomM ms m.nm = true) (hh : hasK LM.nm ms m.nm = false) (hbase : base ≤ w.heap.size) :
    Calls Tryd.prog 22 #[.pointer (some ⟨g, 0, none⟩), aggM m] w fun e w' => ∃ A' c', e = .returned (.int .i64 0) ∧ IxTo w base g A ms.length c (withK LM.nm ms m) w' A' c' := by
  obtain ⟨W0, hW0⟩ : ∃ W0, w.alloc (.cells #[.string m.nm, .int .i64 m.at_, .int .i64 m.fr, .int .i64 m.ar, .int .i64 m.sz, .int .u32 m.su, .int .i64 m.me] 32) = W0 := ⟨_, rfl⟩
  have HB0 : Hid (Below w.heap.size w W0) := by rw [← hW0]; exact (Below.refl _ w).alloc (Nat.le_refl _) _
  have HX0 : Hid (Box W0 w.heap.size #[.string m.nm, .int .i64 m.at_, .int .i64 m.fr, .int .i64 m.ar, .int .i64 m.sz, .int .u32 m.su, .int .i64 m.me] 32) := by rw [← hW0]; exact heap_alloc_new w _
  have HP := Lib.hid (enRight_any m.nm m.at_ m.fr m.ar m.sz m.su m.me W0 hm)
  rw [show memB m.nm m.at_ m.fr m.ar m.sz m.me = true from ht] at HP
  have HH := Lib.hid h
  have HR := Lib.hid (fun W (hW : Below w.heap.size w W) => ixRoom_any base g A c ms m.nm W (h.below hW rfl))
  rw [hr] at HR
  have HPL := Lib.hid (fun W (hW : Below w.heap.size w W) => ixPlace_any base g A c ms m.nm W (h.below hW rfl))
  rw [hh] at HPL
  have hfew : ms.length < 200 := by simpa [roomM, hh] using hr
  have hpl := posK_le (k := LM.nm) ms m.nm
  obtain ⟨p, hp⟩ : ∃ p, posK LM.nm ms m.nm = p := ⟨_, rfl⟩
  have HW : Hid (ms.take p ++ m :: ms.drop p = withK LM.nm ms m) := by rw [← hp]; exact put_new h.ris m hh
  have HWL := Lib.hid (len_withK_new h.ris m hh)
  have HWR := Lib.hid (h.ris.withK m)
  rw [hp] at HPL hpl
  have mixed : Tryd.prog.follows Departure.mixedOrders = true := by kernel_rfl
  clear h ht hr hh hp
  obtain ⟨q0, q1, q2, q3, q4, q5, q6, f0, f1, f2, f3, f4, f5, f6⟩ := box7 HX0.out
  go_enter Tryd.func22, Tryd.ntmps22
  go_wp2_with (first
    | (go_at_call 41; refine HP.out.mono ?_; rintro e w1 ⟨rfl, hbel⟩; have HBL1 := Lib.hid (HB0.out.trans (hbel.mono HB0.out.size)); have HX1 := Lib.hid (HX0.out.below hbel HX0.out.lt); obtain ⟨r0, r1, r2, r3, r4, r5, r6, _⟩ := box7 HX1.out; clear hbel HP)
    | (go_at_call 24; refine (HR.out _ HBL1.out).mono ?_; rintro e w2 ⟨rfl, hbel⟩; have HBL2 := Lib.hid (HBL1.out.trans (hbel.mono HBL1.out.size)); have HX2 := Lib.hid (HX1.out.below hbel HX1.out.lt); obtain ⟨s0, s1, s2, s3, s4, s5, s6, _⟩ := box7 HX2.out; clear hbel HR)
    | (go_at_call 40; refine (HPL.out _ HBL2.out).mono ?_; rintro e w3 ⟨rfl, hbel⟩; have HBL3 := Lib.hid (HBL2.out.trans (hbel.mono HBL2.out.size)); have HX3 := Lib.hid (HX2.out.below hbel HX2.out.lt); obtain ⟨t0, t1, t2, t3, t4, t5, t6, _⟩ := box7 HX3.out; clear hbel HPL))
  have HL3 := Lib.hid (HH.out.below HBL3.out rfl)
  have b0 : w3.cell? ⟨g, 0, none⟩ = some (.slice A ms.length c) := HL3.out.box.cell 0
  have b1 := box_free HL3.out.box 0
  clear q0 q1 q2 q3 q4 q5 q6 f0 f1 f2 f3 f4 f5 f6 r0 r1 r2 r3 r4 r5 r6 s0 s1 s2 s3 s4 s5 s6
  -- REGION 8
  obtain ⟨W4, hW4⟩ : ∃ W4, (w3.alloc (.cells #[.string m.nm, .int .i64 m.at_, .int .i64 m.fr, .int .i64 m.ar, .int .i64 m.sz, .int .u32 m.su, .int .i64 m.me] 32)).drew = W4 := ⟨_, rfl⟩
  have HB4 : Hid (Below w.heap.size w W4) := by show Below _ _ _; rw [← hW4]; exact (HBL3.out.alloc HBL3.out.size _).drew
  have HL4 : Hid (LX W4 base g A c ms) := HH.out.below HB4.out rfl
  have HX4 : Hid (W4.heap[w3.heap.size]? = some (.cells #[.string m.nm, .int .i64 m.at_, .int .i64 m.fr, .int .i64 m.ar, .int .i64 m.sz, .int .u32 m.su, .int .i64 m.me] 32 (0, 0))) := by show _ = _; rw [← hW4]; exact heap_alloc_new w3 _
  have HY4 : Hid (Box W4 w.heap.size #[.string m.nm, .int .i64 m.at_, .int .i64 m.fr, .int .i64 m.ar, .int .i64 m.sz, .int .u32 m.su, .int .i64 m.me] 32) := by show Box _ _ _ _; rw [← hW4]; exact HX3.out.alloc _
  have HI := Lib.hid (insM_any base A ms.length c p (memCells ms) w3.heap.size _ W4 HL4.out.own (memsOne ms) HX4.out rfl (by intro u hu; simp only [List.mem_cons, List.not_mem_nil, or_false] at hu; rcases hu with rfl | rfl | rfl | rfl | rfl | rfl | rfl <;> rfl) (by omega) (by omega) (fun hk => by have := own_lt HL3.out.own _ hk; omega) (Nat.le_trans hbase HB4.out.size))
  have HNO : Hid (¬ ownS (.slice A ms.length c) w.heap.size) := fun hk => by have := own_lt HH.out.own _ hk; omega
  have HGN : Hid (¬ oneB g w.heap.size) := fun hk => by have h1 := HH.out.box.lt; have h2 : w.heap.size = g := hk; omega
  have HE : Hid ((memCells ms).take (p * 7) ++ #[.string m.nm, .int .i64 m.at_, .int .i64 m.fr, .int .i64 m.ar, .int .i64 m.sz, .int .u32 m.su, .int .i64 m.me].toList ++ (memCells ms).drop (p * 7) = memCells (withK LM.nm ms m)) := by
    show _ = _
    rw [← HW.out]
    unfold memCells
    rw [memCells_take, memCells_drop, List.map_append, List.flatten_append, List.map_cons, List.flatten_cons, List.append_assoc]
    rfl
  have HLL : Hid (ms.length + 1 = (withK LM.nm ms m).length) := HWL.out.symm
  have HF := Lib.hid hfew
  have HW4 := Lib.hid hW4
  clear hW4 HW
  refine wp_region_noPanic (wp_region_held_drew (S := (fun V : World => V.cell? ⟨w.heap.size, 0, none⟩ = some (.string m.nm) ∧ V.cell? ⟨w.heap.size, 1, none⟩ = some (.int .i64 m.at_) ∧ V.cell? ⟨w.heap.size, 2, none⟩ = some (.int .i64 m.fr) ∧ V.cell? ⟨w.heap.size, 3, none⟩ = some (.int .i64 m.ar) ∧ V.cell? ⟨w.heap.size, 4, none⟩ = some (.int .i64 m.sz) ∧ V.cell? ⟨w.heap.size, 5, none⟩ = some (.int .u32 m.su) ∧ V.cell? ⟨w.heap.size, 6, none⟩ = some (.int .i64 m.me))) (by kernel_rfl) ⟨t0, t1, t2, t3, t4, t5, t6⟩ (fun hHeld => ?_))
  (try simp only [Act.put, List.setIfInBounds_toArray, List.set_cons_zero, List.set_cons_succ])
  refine wpAnyH_take (i := 0) (v := ?_) (by simp only [List.getElem?_toArray, List.getElem?_cons_succ, List.getElem?_cons_zero]; rfl) (by kernel_rfl) (by kernel_rfl) (by kernel_rfl) (fun _ _ _ h => h) (Or.inl ⟨by rfl, ?_⟩) (by assumption) ?_
  rotate_left
  · intro w hSw; (try dsimp only at hSw); go_split_ands; go_simp; (try with_reducible rfl)
  (try simp only [Act.put, List.setIfInBounds_toArray, List.set_cons_zero, List.set_cons_succ])
  refine wpAnyH_take (i := 1) (v := ?_) (by simp only [List.getElem?_toArray, List.getElem?_cons_succ, List.getElem?_cons_zero]; rfl) (by kernel_rfl) (by kernel_rfl) (by kernel_rfl) (fun _ _ _ h => h) (Or.inl ⟨by rfl, ?_⟩) (by assumption) ?_
  rotate_left
  · intro w hSw; (try dsimp only at hSw); go_split_ands; go_simp; (try with_reducible rfl)
  (try simp only [Act.put, List.setIfInBounds_toArray, List.set_cons_zero, List.set_cons_succ])
  refine wpAnyH_take (i := 2) (v := ?_) (by simp only [List.getElem?_toArray, List.getElem?_cons_succ, List.getElem?_cons_zero]; rfl) (by kernel_rfl) (by kernel_rfl) (by kernel_rfl) (fun _ _ _ h => h) (Or.inl ⟨by rfl, ?_⟩) (by assumption) ?_
  rotate_left
  · intro w hSw; (try dsimp only at hSw); go_split_ands; go_simp; (try with_reducible rfl)
  (try simp only [Act.put, List.setIfInBounds_toArray, List.set_cons_zero, List.set_cons_succ])
  refine wpAnyH_take (i := 3) (v := ?_) (by simp only [List.getElem?_toArray, List.getElem?_cons_succ, List.getElem?_cons_zero]; rfl) (by kernel_rfl) (by kernel_rfl) (by kernel_rfl) (fun _ _ _ h => h) (Or.inl ⟨by rfl, ?_⟩) (by assumption) ?_
  rotate_left
  · intro w hSw; (try dsimp only at hSw); go_split_ands; go_simp; (try with_reducible rfl)
  (try simp only [Act.put, List.setIfInBounds_toArray, List.set_cons_zero, List.set_cons_succ])
  refine wpAnyH_take (i := 5) (v := ?_) (by simp only [List.getElem?_toArray, List.getElem?_cons_succ, List.getElem?_cons_zero]; rfl) (by kernel_rfl) (by kernel_rfl) (by kernel_rfl) (fun _ _ _ h => h) (Or.inl ⟨by rfl, ?_⟩) (by assumption) ?_
  rotate_left
  · intro w hSw; (try dsimp only at hSw); go_split_ands; go_simp; (try with_reducible rfl)
  (try simp only [Act.put, List.setIfInBounds_toArray, List.set_cons_zero, List.set_cons_succ])
  refine wpAnyH_take (i := 6) (v := ?_) (by simp only [List.getElem?_toArray, List.getElem?_cons_succ, List.getElem?_cons_zero]; rfl) (by kernel_rfl) (by kernel_rfl) (by kernel_rfl) (fun _ _ _ h => h) (Or.inl ⟨by rfl, ?_⟩) (by assumption) ?_
  rotate_left
  · intro w hSw; (try dsimp only at hSw); go_split_ands; go_simp; (try with_reducible rfl)
  (try simp only [Act.put, List.setIfInBounds_toArray, List.set_cons_zero, List.set_cons_succ])
  refine wpAnyH_ready (rs := [4, 7]) (by kernel_rfl) (by simp) ?_
  refine AllReadyH.cons rfl (fun K hK => ?_) (AllReadyH.cons rfl (fun K hK => ?_) AllReadyH.nil)
  · skip
    go_simp
    refine hK.out _ _ ⟨t0, t1, t2, t3, t4, t5, t6⟩ (fun hHeld => ?_)
    clear hK K
    (try simp only [Act.put, List.setIfInBounds_toArray, List.set_cons_zero, List.set_cons_succ])
    refine wpAnyH_ready (rs := [7]) (by kernel_rfl) (by simp) ?_
    refine AllReadyH.cons rfl (fun K hK => ?_) AllReadyH.nil
    go_simp
    rw [HW4.out]
    refine hK.out _ _ ⟨HY4.out.cell 0, HY4.out.cell 1, HY4.out.cell 2, HY4.out.cell 3, HY4.out.cell 4, HY4.out.cell 5, HY4.out.cell 6⟩ (fun hHeld => ?_)
    clear hK K
    (try simp only [Act.put, List.setIfInBounds_toArray, List.set_cons_zero, List.set_cons_succ])
    refine wpAnyH_ready (rs := [8]) (by kernel_rfl) (by simp) ?_
    refine AllReadyH.cons rfl (fun K hK => ?_) AllReadyH.nil
    go_simp
    go_at_call 42
    refine HI.out.mono ?_
    rintro e w5 ⟨A', c', rfl, happ⟩
    have HAP := Lib.hid happ
    have HBX := Lib.hid (HL4.out.box.mod (Mod.of_app happ) HL4.out.apart)
    have HY5 := Lib.hid (HY4.out.mod (Mod.of_app happ) HNO.out)
    clear happ
    go_wp2_with fail
    refine hK.out _ _ ⟨HY5.out.cell 0, HY5.out.cell 1, HY5.out.cell 2, HY5.out.cell 3, HY5.out.cell 4, HY5.out.cell 5, HY5.out.cell 6⟩ (fun hHeld => ?_)
    clear hK K
    (try simp only [Act.put, List.setIfInBounds_toArray, List.set_cons_zero, List.set_cons_succ])
    refine wpAnyH_take (i := 9) (v := ?_) (by simp only [List.getElem?_toArray, List.getElem?_cons_succ, List.getElem?_cons_zero]; rfl) (by kernel_rfl) (by kernel_rfl) (by kernel_rfl) (fun _ _ _ h => h) (Or.inl ⟨by rfl, ?_⟩) (by assumption) ?_
    rotate_left
    · intro w hSw; (try dsimp only at hSw); go_split_ands; go_simp; (try with_reducible rfl)
    (try simp only [Act.put, List.setIfInBounds_toArray, List.set_cons_zero, List.set_cons_succ])
    refine wpAnyH_take (i := 10) (v := ?_) (by simp only [List.getElem?_toArray, List.getElem?_cons_succ, List.getElem?_cons_zero]; rfl) (by kernel_rfl) (by kernel_rfl) (by kernel_rfl) (fun _ _ _ h => h) (Or.inl ⟨by rfl, ?_⟩) (by assumption) ?_
    rotate_left
    · intro w hSw; (try dsimp only at hSw); go_split_ands; go_simp; (try with_reducible rfl)
    (try simp only [Act.put, List.setIfInBounds_toArray, List.set_cons_zero, List.set_cons_succ])
    refine wpAnyH_ready (rs := [11]) (by kernel_rfl) (by simp) ?_
    refine AllReadyH.cons rfl (fun K hK => ?_) AllReadyH.nil
    have z0 : w5.cell? ⟨g, 0, none⟩ = some (.slice A ms.length c) := HBX.out.cell 0
    have z1 := box_free HBX.out 0
    have HY6 := Lib.hid (HY5.out.mod ((Mod.refl (oneB g) w5).set ⟨g, 0, none⟩ (.slice A' (ms.length + 1) c') (.inl rfl)) HGN.out)
    go_simp
    refine hK.out _ _ ⟨HY6.out.cell 0, HY6.out.cell 1, HY6.out.cell 2, HY6.out.cell 3, HY6.out.cell 4, HY6.out.cell 5, HY6.out.cell 6⟩ (fun hHeld => ?_)
    clear hK K
    (try simp only [Act.put, List.setIfInBounds_toArray, List.set_cons_zero, List.set_cons_succ])
    refine wpAnyH_done (by kernel_rfl) (NoPanic.normal ?_) _
    go_wp2
    go_ret
    have ha := HAP.out
    rw [HE.out, HLL.out] at ha
    refine ⟨A', c', rfl, ?_⟩
    rw [HLL.out]
    exact IxTo.set HL4.out HB4.out ha (by have := HWL.out; have := HF.out; omega) HWR.out
  · skip
    go_simp
    rw [HW4.out]
    refine hK.out _ _ ⟨HY4.out.cell 0, HY4.out.cell 1, HY4.out.cell 2, HY4.out.cell 3, HY4.out.cell 4, HY4.out.cell 5, HY4.out.cell 6⟩ (fun hHeld => ?_)
    clear hK K
    (try simp only [Act.put, List.setIfInBounds_toArray, List.set_cons_zero, List.set_cons_succ])
    refine wpAnyH_ready (rs := [4]) (by kernel_rfl) (by simp) ?_
    refine AllReadyH.cons rfl (fun K hK => ?_) AllReadyH.nil
    have b2 : W4.cell? ⟨g, 0, none⟩ = some (.slice A ms.length c) := HL4.out.box.cell 0
    go_simp
    refine hK.out _ _ ⟨HY4.out.cell 0, HY4.out.cell 1, HY4.out.cell 2, HY4.out.cell 3, HY4.out.cell 4, HY4.out.cell 5, HY4.out.cell 6⟩ (fun hHeld => ?_)
    clear hK K
    (try simp only [Act.put, List.setIfInBounds_toArray, List.set_cons_zero, List.set_cons_succ])
    refine wpAnyH_ready (rs := [8]) (by kernel_rfl) (by simp) ?_
    refine AllReadyH.cons rfl (fun K hK => ?_) AllReadyH.nil
    go_simp
    go_at_call 42
    refine HI.out.mono ?_
    rintro e w5 ⟨A', c', rfl, happ⟩
    have HAP := Lib.hid happ
    have HBX := Lib.hid (HL4.out.box.mod (Mod.of_app happ) HL4.out.apart)
    have HY5 := Lib.hid (HY4.out.mod (Mod.of_app happ) HNO.out)
    clear happ
    go_wp2_with fail
    refine hK.out _ _ ⟨HY5.out.cell 0, HY5.out.cell 1, HY5.out.cell 2, HY5.out.cell 3, HY5.out.cell 4, HY5.out.cell 5, HY5.out.cell 6⟩ (fun hHeld => ?_)
    clear hK K
    (try simp only [Act.put, List.setIfInBounds_toArray, List.set_cons_zero, List.set_cons_succ])
    refine wpAnyH_take (i := 9) (v := ?_) (by simp only [List.getElem?_toArray, List.getElem?_cons_succ, List.getElem?_cons_zero]; rfl) (by kernel_rfl) (by kernel_rfl) (by kernel_rfl) (fun _ _ _ h => h) (Or.inl ⟨by rfl, ?_⟩) (by assumption) ?_
    rotate_left
    · intro w hSw; (try dsimp only at hSw); go_split_ands; go_simp; (try with_reducible rfl)
    (try simp only [Act.put, List.setIfInBounds_toArray, List.set_cons_zero, List.set_cons_succ])
    refine wpAnyH_take (i := 10) (v := ?_) (by simp only [List.getElem?_toArray, List.getElem?_cons_succ, List.getElem?_cons_zero]; rfl) (by kernel_rfl) (by kernel_rfl) (by kernel_rfl) (fun _ _ _ h => h) (Or.inl ⟨by rfl, ?_⟩) (by assumption) ?_
    rotate_left
    · intro w hSw; (try dsimp only at hSw); go_split_ands; go_simp; (try with_reducible rfl)
    (try simp only [Act.put, List.setIfInBounds_toArray, List.set_cons_zero, List.set_cons_succ])
    refine wpAnyH_ready (rs := [11]) (by kernel_rfl) (by simp) ?_
    refine AllReadyH.cons rfl (fun K hK => ?_) AllReadyH.nil
    have z0 : w5.cell? ⟨g, 0, none⟩ = some (.slice A ms.length c) := HBX.out.cell 0
    have z1 := box_free HBX.out 0
    have HY6 := Lib.hid (HY5.out.mod ((Mod.refl (oneB g) w5).set ⟨g, 0, none⟩ (.slice A' (ms.length + 1) c') (.inl rfl)) HGN.out)
    go_simp
    refine hK.out _ _ ⟨HY6.out.cell 0, HY6.out.cell 1, HY6.out.cell 2, HY6.out.cell 3, HY6.out.cell 4, HY6.out.cell 5, HY6.out.cell 6⟩ (fun hHeld => ?_)
    clear hK K
    (try simp only [Act.put, List.setIfInBounds_toArray, List.set_cons_zero, List.set_cons_succ])
    refine wpAnyH_done (by kernel_rfl) (NoPanic.normal ?_) _
    go_wp2
    go_ret
    have ha := HAP.out
    rw [HE.out, HLL.out] at ha
    refine ⟨A', c', rfl, ?_⟩
    rw [HLL.out]
    exact IxTo.set HL4.out HB4.out ha (by have := HWL.out; have := HF.out; omega) HWR.out
end Go.Proofs.YtjoifgeljjgflaaDoor
