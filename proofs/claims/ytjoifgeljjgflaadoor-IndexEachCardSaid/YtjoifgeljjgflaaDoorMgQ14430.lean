/- Layer 24: what is put into an index, what is dropped, and how one is made. -/
import Derived.Test.YtjoifgeljjgflaaDoorMgQ14429
import Derived.Deep.RegionHeld3
import Derived.Deep.RegionWith
namespace Go.Proofs.YtjoifgeljjgflaaDoor
open Go.RowKit

/-- Is there room for a name? -/
def roomM (ms : List LM) (s : ByteArray) : Bool := hasK LM.nm ms s || decide (ms.length < 200)
set_option maxHeartbeats 1000000 in
theorem ixRoom_any (base g : Nat) (A : Option Addr) (c : Nat) (ms : List LM) (s : ByteArray) (w : World) (h : LX w base g A c ms) :
    Calls Tryd.prog 24 #[.pointer (some ⟨g, 0, none⟩), .string s] w fun e w' => e = .returned (.bool (roomM ms s)) ∧ Below w.heap.size w w' := by
  have HP := Lib.hid (ixPlace_any base g A c ms s w h)
  have HL := Lib.hid (fun W (hW : Below w.heap.size w W) => ixLen_any base g A c ms W (h.below hW rfl))
  obtain ⟨t, ht⟩ : ∃ t, hasK LM.nm ms s = t := ⟨_, rfl⟩
  rw [ht] at HP
  have HR : Hid (roomM ms s = (t || decide (ms.length < 200))) := by show _ = _; unfold roomM; rw [ht]
  clear h ht
  rw [HR.out]
  cases t with
  | true =>
    go_enter Tryd.func24, Tryd.ntmps24
    go_wp2_with ((go_at_call 40; refine HP.out.mono ?_; rintro e w' ⟨rfl, hbel⟩; have HBL := Lib.hid hbel; clear hbel HP))
    go_ret
    exact ⟨rfl, HBL.out⟩
  | false =>
    go_enter Tryd.func24, Tryd.ntmps24
    go_wp2_with (first
      | (go_at_call 40; refine HP.out.mono ?_; rintro e w' ⟨rfl, hbel⟩; have HBL := Lib.hid hbel; clear hbel HP)
      | (go_at_call 12; refine (HL.out _ HBL.out).mono ?_; rintro e w' ⟨rfl, rfl⟩; clear HL))
    go_ret
    exact ⟨congrArg (fun b => Ending.returned (.bool b)) (by rw [Bool.false_or]; exact decide_eq_decide.2 (by omega)), HBL.out⟩
/-- What a change of an index leaves: it has these members; its own old blocks alone may have changed. -/
structure IxTo (w : World) (base g : Nat) (A : Option Addr) (n c : Nat) (ms' : List LM) (w' : World) (A' : Option Addr) (c' : Nat) : Prop where
  ix : LX w' base g A' c' ms'
  mod : Mod (ixS g A n c) w w'
  place : ∀ k, ownS (.slice A' ms'.length c') k → ownS (.slice A n c) k ∨ w.heap.size ≤ k
theorem IxTo.stay {w w' : World} {base g : Nat} {A : Option Addr} {c : Nat} {ms : List LM} (h : LX w base g A c ms) (hb : Below w.heap.size w w') : IxTo w base g A ms.length c ms w' A c :=
  ⟨h.below hb rfl, (Mod.of_below hb).mono (fun _ hk => hk.elim), fun _ hk => .inl hk⟩

theorem IxTo.set {w w1 w2 : World} {base g : Nat} {A A' : Option Addr} {c c' : Nat} {ms ms' : List LM} (hx : LX w1 base g A c ms) (hb : Below w.heap.size w w1) (ha : App w1 base 32 7 (.slice A ms.length c) ms'.length (memCells ms') w2 (.slice A' ms'.length c'))
    (hf : ms'.length ≤ 1000) (hr : RisM ms') : IxTo w base g A ms.length c ms' (w2.setCell ⟨g, 0, none⟩ (.slice A' ms'.length c')) A' c' := by
  have hbx : Box w2 g #[.slice A ms.length c] 57 := hx.box.mod (Mod.of_app ha) hx.apart
  have hne : ¬ ownS (.slice A' ms'.length c') g := own_ne ha.own hbx (by decide)
  refine ⟨⟨heap_setCell_same w2 g 0 _ _ _ hbx, own_keep ha.own ((Mod.refl (oneB g) w2).set ⟨g, 0, none⟩ _ (.inl rfl)) (fun k hk hg => hne (by have : k = g := hg; subst this; exact hk)), hx.low, hf, hr⟩, ?_, fun k hk => ?_⟩
  · exact (((Mod.of_below hb).mono (T := ixS g A ms.length c) (fun _ hk => hk.elim)).then_ ((Mod.of_app ha).mono (fun _ hk => .inr hk))).set _ _ (.inl (.inl rfl))
  · rcases ha.place k hk with h | h
    · exact .inl h
    · exact .inr (Nat.le_trans hb.size h)
set_option maxHeartbeats 1000000 in
theorem ixDrop_not (base g : Nat) (A : Option Addr) (c : Nat) (ms : List LM) (s : ByteArray) (w : World) (h : LX w base g A c ms) (ht : hasK LM.nm ms s = false) :
    Calls Tryd.prog 23 #[.pointer (some ⟨g, 0, none⟩), .string s] w fun e w' => e = .returned (.bool false) ∧ Below w.heap.size w w' := by
  have HP := Lib.hid (ixPlace_any base g A c ms s w h)
  rw [ht] at HP
  clear h ht
  go_enter Tryd.func23, Tryd.ntmps23
  go_wp2_with ((go_at_call 40; refine HP.out.mono ?_; rintro e w' ⟨rfl, hbel⟩; have HBL := Lib.hid hbel; clear hbel HP))
  go_ret
  exact ⟨rfl, HBL.out⟩
set_option maxRecDepth 100000 in
set_option maxHeartbeats 2000000 in
theorem ixDrop_yes (base g : Nat) (A : Option Addr) (c : Nat) (ms : List LM) (s : ByteArray) (w : World) (h : LX w base g A c ms) (ht : hasK LM.nm ms s = true) :
    Calls Tryd.prog 23 #[.pointer (some ⟨g, 0, none⟩), .string s] w fun e w' => ∃ A' c', e = .returned (.bool true) ∧ IxTo w base g A ms.length c (outK LM.nm ms s) w' A' c' := by
  have HP := Lib.hid (ixPlace_any base g A c ms s w h)
  rw [ht] at HP
  have HH := Lib.hid h
  obtain ⟨x, hx, _⟩ := hasK_there h.ris ht
  have hlt := (List.getElem?_eq_some_iff.1 hx).1
  have HOUT := Lib.hid (out_there h.ris ht)
  have HLEN := Lib.hid (len_outK_there h.ris ht)
  have HRIS := Lib.hid (h.ris.outK s)
  have hfew := h.few
  obtain ⟨p, hp⟩ : ∃ p, posK LM.nm ms s = p := ⟨_, rfl⟩
  rw [hp] at HP HOUT hlt
  obtain ⟨g', c', he⟩ : ∃ g' c', Value.slice A ms.length c = .slice (some ⟨g', 0, none⟩) ms.length c' := by
    rcases ownK_form h.own with ⟨_, h0⟩ | ⟨g', c', he⟩
    · omega
    · exact ⟨g', c', he⟩
  injection he with hA _ hc
  subst hA hc
  obtain ⟨l, hl⟩ : ∃ l, ms.length = l := ⟨_, rfl⟩
  have HL := Lib.hid hl
  have HD := Lib.hid (fun W (hW : Below w.heap.size w W) => delM_any base g' l c p (memCells ms) W (by rw [← hl]; exact (h.below hW rfl).own) (memsOne ms) (by omega) (by omega))
  have HNE : Hid (g' ≠ g) := fun e => h.apart (by subst e; rfl)
  rw [hl] at hfew hlt
  have hpi : (p : Int) < (l : Int) := by omega
  have hw1 : IntKind.i64.wrap ((p : Int) + 1) = (p : Int) + 1 := IntWalk.i64_in _ (by omega)
  clear h ht hx hp hl
  go_enter Tryd.func23, Tryd.ntmps23
  go_wp2_with (first
    | (go_at_call 40; refine HP.out.mono ?_; rintro e w' ⟨rfl, hbel⟩; have HBL := Lib.hid hbel; have HX1 := Lib.hid (HH.out.below hbel rfl); have b0 : w'.cell? ⟨g, 0, none⟩ = some (.slice (some ⟨g', 0, none⟩) l c) := by { have := HX1.out.box.cell 0; rw [HL.out] at this; exact this }; clear hbel HP)
    | (go_at_call 43; refine (HD.out _ HBL.out).mono ?_; rintro e w2 ⟨rfl, happ⟩; have HAP := Lib.hid happ; have HBX := Lib.hid (HX1.out.box.mod (Mod.of_app happ) HX1.out.apart); have z0 : w2.cell? ⟨g, 0, none⟩ = _ := HBX.out.cell 0; have z1 := box_free HBX.out 0; clear happ HD))
  go_ret
  have hl := HL.out
  have hlen := HLEN.out
  have hn : l - 1 = (outK LM.nm ms s).length := by omega
  have e : (memCells ms).take (p * 7) ++ (memCells ms).drop ((p + 1) * 7) = memCells (outK LM.nm ms s) := by
    unfold memCells
    rw [memCells_take, memCells_drop, ← List.flatten_append, ← List.map_append, HOUT.out]
  have ha := HAP.out
  rw [e, hn, ← hl] at ha
  refine ⟨some ⟨g', 0, none⟩, c, rfl, ?_⟩
  rw [hn]
  exact IxTo.set HX1.out HBL.out ha (by omega) HRIS.out

set_option maxHeartbeats 1000000 in
theorem ixPut_bad (g : Nat) (m : LM) (w : World) (hm : m.nm.size ≤ maxLen) (ht : m.B = false) :
    Calls Tryd.prog 22 #[.pointer (some ⟨g, 0, none⟩), aggM m] w fun e w' => e = .returned (.int .i64 1) ∧ Below w.heap.size w w' := by
  obtain ⟨W0, hW0⟩ : ∃ W0, w.alloc (.cells #[.string m.nm, .int .i64 m.at_, .int .i64 m.fr, .int .i64 m.ar, .int .i64 m.sz, .int .u32 m.su, .int .i64 m.me] 32) = W0 := ⟨_, rfl⟩
  have HB0 : Hid (Below w.heap.size w W0) := by rw [← hW0]; exact (Below.refl _ w).alloc (Nat.le_refl _) _
  have HX0 : Hid (Box W0 w.heap.size #[.string m.nm, .int .i64 m.at_, .int .i64 m.fr, .int .i64 m.ar, .int .i64 m.sz, .int .u32 m.su, .int .i64 m.me] 32) := by rw [← hW0]; exact heap_alloc_new w _
  have HP := Lib.hid (enRight_any m.nm m.at_ m.fr m.ar m.sz m.su m.me W0 hm)
  rw [show memB m.nm m.at_ m.fr m.ar m.sz m.me = false from ht] at HP
  obtain ⟨q0, q1, q2, q3, q4, q5, q6, f0, f1, f2, f3, f4, f5, f6⟩ := box7 HX0.out
  clear ht
  go_enter Tryd.func22, Tryd.ntmps22
  go_wp2_with ((go_at_call 41; refine HP.out.mono ?_; rintro e w' ⟨rfl, hbel⟩; have HBL := Lib.hid (HB0.out.trans (hbel.mono HB0.out.size)); clear hbel HP))
  go_ret
  exact ⟨rfl, HBL.out⟩
set_option maxHeartbeats 1000000 in
theorem ixPut_full (base g : Nat) (A : Option Addr) (c : Nat) (ms : List LM) (m : LM) (w : World) (h : LX w base g A c ms) (hm : m.nm.size ≤ maxLen) (ht : m.B = true) (hr : roomM ms m.nm = false) :
    Calls Tryd.prog 22 #[.pointer (some ⟨g, 0, none⟩), aggM m] w fun e w' => e = .returned (.int .i64 14) ∧ Below w.heap.size w w' := by
  obtain ⟨W0, hW0⟩ : ∃ W0, w.alloc (.cells #[.string m.nm, .int .i64 m.at_, .int .i64 m.fr, .int .i64 m.ar, .int .i64 m.sz, .int .u32 m.su, .int .i64 m.me] 32) = W0 := ⟨_, rfl⟩
  have HB0 : Hid (Below w.heap.size w W0) := by rw [← hW0]; exact (Below.refl _ w).alloc (Nat.le_refl _) _
  have HX0 : Hid (Box W0 w.heap.size #[.string m.nm, .int .i64 m.at_, .int .i64 m.fr, .int .i64 m.ar, .int .i64 m.sz, .int .u32 m.su, .int .i64 m.me] 32) := by rw [← hW0]; exact heap_alloc_new w _
  have HP := Lib.hid (enRight_any m.nm m.at_ m.fr m.ar m.sz m.su m.me W0 hm)
  rw [show memB m.nm m.at_ m.fr m.ar m.sz m.me = true from ht] at HP
  have HR := Lib.hid (fun W (hW : Below w.heap.size w W) => ixRoom_any base g A c ms m.nm W (h.below hW rfl))
  rw [hr] at HR
  obtain ⟨q0, q1, q2, q3, q4, q5, q6, f0, f1, f2, f3, f4, f5, f6⟩ := box7 HX0.out
  clear h ht hr
  go_enter Tryd.func22, Tryd.ntmps22
  go_wp2_with (first
    | (go_at_call 41; refine HP.out.mono ?_; rintro e w' ⟨rfl, hbel⟩; have HBL := Lib.hid (HB0.out.trans (hbel.mono HB0.out.size)); have HX1 := Lib.hid (HX0.out.below hbel HX0.out.lt); obtain ⟨r0, r1, r2, r3, r4, r5, r6, _⟩ := box7 HX1.out; clear hbel HP)
    | (go_at_call 24; refine (HR.out _ HBL.out).mono ?_; rintro e w2 ⟨rfl, hbel⟩; have HBL2 := Lib.hid (HBL.out.trans (hbel.mono HBL.out.size)); clear hbel HR))
  go_ret
  exact ⟨rfl, HBL2.out⟩

theorem memCells_len (ms : List LM) : (memCells ms).length = ms.length * 7 := mems_len ms
set_option linter.unusedSimpArgs false in
set_option maxRecDepth 100000 in
set_option maxHeartbeats 4000000 in
theorem ixPut_new (base g : Nat) (A : Option Addr) (c : Nat) (ms : List LM) (m : LM) (w : World) (h : LX w base g A c ms) (hm : m.nm.size ≤ maxLen) (ht : m.B = true) (hr : roomM ms m.nm = true) (hh : hasK LM.nm ms m.nm = false) (hbase : base ≤ w.heap.size) :
    Calls Tryd.prog 22 #[.pointer (some ⟨g, 0, none⟩), aggM m] w fun e w' => ∃ A' c', e = .returned (.int .i64 0) ∧ IxTo w base g A ms.length c (withK LM.nm ms m) w' A' c' := by
  obtain ⟨W0, hW0⟩ : ∃ W0, w.alloc (.cells #[.string m.nm, .int .i64 m.at_, .int .i64 m.fr, .int .i64 m.ar, .int .i64 m.sz, .int .u32 m.su, .int .i64 m.me] 32) = W0 := ⟨_, rfl⟩
  have HB0 : Hid (Below w.heap.size w W0) := by rw [← hW0]; exact (Below.refl _ w).alloc (Nat.le_refl _) _
  have HX0 : Hid (Box W0 w.heap.size #[.string m.nm, .int .i64 m.at_, .int .i64 m.fr, .int .i64 m.ar, .int .i64 m.sz, .int .u32 m.su, .int .i64 m.me] 32) := by rw [← hW0]; exact heap_alloc_new w _
  have HP := Lib.hid (enRight_any m.nm m.at_ m.fr m.ar m.sz m.su m.me W0 hm)
  rw [show memB m.nm m.at_ m.fr m.ar m.sz m.me = true from ht] at HP
  have HH := Lib.hid h
  have HR := Lib.hid (fun W (hW : Below w.heap.size w W) => ixRoom_any base g A c ms m.nm W (h.below hW rfl))
  rw [hr] at HR
  have HPL := Lib.hid (fun W (hW : Below w.heap.size w W) => ixPlace_any base g A c ms m.nm W (h.below hW rfl))
  rw [hh] at HPL
  have hfew : ms.length < 200 := by simpa [roomM, hh] using hr
  have hpl := posK_le (k := LM.nm) ms m.nm
  obtain ⟨p, hp⟩ : ∃ p, posK LM.nm ms m.nm = p := ⟨_, rfl⟩
  have HW : Hid (ms.take p ++ m :: ms.drop p = withK LM.nm ms m) := by rw [← hp]; exact put_new h.ris m hh
  have HWL := Lib.hid (len_withK_new h.ris m hh)
  have HWR := Lib.hid (h.ris.withK m)
  rw [hp] at HPL hpl
  have mixed : Tryd.prog.follows Departure.mixedOrders = true := by kernel_rfl
  clear h ht hr hh hp
  obtain ⟨q0, q1, q2, q3, q4, q5, q6, f0, f1, f2, f3, f4, f5, f6⟩ := box7 HX0.out
  go_enter Tryd.func22, Tryd.ntmps22
  go_wp2_with (first
    | (go_at_call 41; refine HP.out.mono ?_; rintro e w1 ⟨rfl, hbel⟩; have HBL1 := Lib.hid (HB0.out.trans (hbel.mono HB0.out.size)); have HX1 := Lib.hid (HX0.out.below hbel HX0.out.lt); obtain ⟨r0, r1, r2, r3, r4, r5, r6, _⟩ := box7 HX1.out; clear hbel HP)
    | (go_at_call 24; refine (HR.out _ HBL1.out).mono ?_; rintro e w2 ⟨rfl, hbel⟩; have HBL2 := Lib.hid (HBL1.out.trans (hbel.mono HBL1.out.size)); have HX2 := Lib.hid (HX1.out.below hbel HX1.out.lt); obtain ⟨s0, s1, s2, s3, s4, s5, s6, _⟩ := box7 HX2.out; clear hbel HR)
    | (go_at_call 40; refine (HPL.out _ HBL2.out).mono ?_; rintro e w3 ⟨rfl, hbel⟩; have HBL3 := Lib.hid (HBL2.out.trans (hbel.mono HBL2.out.size)); have HX3 := Lib.hid (HX2.out.below hbel HX2.out.lt); obtain ⟨t0, t1, t2, t3, t4, t5, t6, _⟩ := box7 HX3.out; clear hbel HPL))
  have HL3 := Lib.hid (HH.out.below HBL3.out rfl)
  have b0 : w3.cell? ⟨g, 0, none⟩ = some (.slice A ms.length c) := HL3.out.box.cell 0
  have b1 := box_free HL3.out.box 0
  clear q0 q1 q2 q3 q4 q5 q6 f0 f1 f2 f3 f4 f5 f6 r0 r1 r2 r3 r4 r5 r6 s0 s1 s2 s3 s4 s5 s6
  -- REGION 8
  obtain ⟨W4, hW4⟩ : ∃ W4, (w3.alloc (.cells #[.string m.nm, .int .i64 m.at_, .int .i64 m.fr, .int .i64 m.ar, .int .i64 m.sz, .int .u32 m.su, .int .i64 m.me] 32)).drew = W4 := ⟨_, rfl⟩
  have HB4 : Hid (Below w.heap.size w W4) := by show Below _ _ _; rw [← hW4]; exact (HBL3.out.alloc HBL3.out.size _).drew
  have HL4 : Hid (LX W4 base g A c ms) := HH.out.below HB4.out rfl
  have HX4 : Hid (W4.heap[w3.heap.size]? = some (.cells #[.string m.nm, .int .i64 m.at_, .int .i64 m.fr, .int .i64 m.ar, .int .i64 m.sz, .int .u32 m.su, .int .i64 m.me] 32 (0, 0))) := by show _ = _; rw [← hW4]; exact heap_alloc_new w3 _
  have HY4 : Hid (Box W4 w.heap.size #[.string m.nm, .int .i64 m.at_, .int .i64 m.fr, .int .i64 m.ar, .int .i64 m.sz, .int .u32 m.su, .int .i64 m.me] 32) := by show Box _ _ _ _; rw [← hW4]; exact HX3.out.alloc _
  have HI := Lib.hid (insM_any base A ms.length c p (memCells ms) w3.heap.size _ W4 HL4.out.own (memsOne ms) HX4.out rfl (by intro u hu; simp only [List.mem_cons, List.not_mem_nil, or_false] at hu; rcases hu with rfl | rfl | rfl | rfl | rfl | rfl | rfl <;> rfl) (by omega) (by omega) (fun hk => by have := own_lt HL3.out.own _ hk; omega) (Nat.le_trans hbase HB4.out.size))
  have HNO : Hid (¬ ownS (.slice A ms.length c) w.heap.size) := fun hk => by have := own_lt HH.out.own _ hk; omega
  have HGN : Hid (¬ oneB g w.heap.size) := fun hk => by have h1 := HH.out.box.lt; have h2 : w.heap.size = g := hk; omega
  have HE : Hid ((memCells ms).take (p * 7) ++ #[.string m.nm, .int .i64 m.at_, .int .i64 m.fr, .int .i64 m.ar, .int .i64 m.sz, .int .u32 m.su, .int .i64 m.me].toList ++ (memCells ms).drop (p * 7) = memCells (withK LM.nm ms m)) := by
    show _ = _
    rw [← HW.out]
    unfold memCells
    rw [memCells_take, memCells_drop, List.map_append, List.flatten_append, List.map_cons, List.flatten_cons, List.append_assoc]
    rfl
  have HLL : Hid (ms.length + 1 = (withK LM.nm ms m).length) := HWL.out.symm
  have HF := Lib.hid hfew
  have HW4 := Lib.hid hW4
  clear hW4 HW
  refine wp_region_noPanic (wp_region_held_drew (S := (fun V : World => V.cell? ⟨w.heap.size, 0, none⟩ = some (.string m.nm) ∧ V.cell? ⟨w.heap.size, 1, none⟩ = some (.int .i64 m.at_) ∧ V.cell? ⟨w.heap.size, 2, none⟩ = some (.int .i64 m.fr) ∧ V.cell? ⟨w.heap.size, 3, none⟩ = some (.int .i64 m.ar) ∧ V.cell? ⟨w.heap.size, 4, none⟩ = some (.int .i64 m.sz) ∧ V.cell? ⟨w.heap.size, 5, none⟩ = some (.int .u32 m.su) ∧ V.cell? ⟨w.heap.size, 6, none⟩ = some (.int .i64 m.me))) (by kernel_rfl) ⟨t0, t1, t2, t3, t4, t5, t6⟩ (fun hHeld => ?_))
  (try simp only [Act.put, List.setIfInBounds_toArray, List.set_cons_zero, List.set_cons_succ])
  refine wpAnyH_take (i := 0) (v := ?_) (by simp only [List.getElem?_toArray, List.getElem?_cons_succ, List.getElem?_cons_zero]; rfl) (by kernel_rfl) (by kernel_rfl) (by kernel_rfl) (fun _ _ _ h => h) (Or.inl ⟨by rfl, ?_⟩) (by assumption) ?_
  rotate_left
  · intro w hSw; (try dsimp only at hSw); go_split_ands; go_simp; (try with_reducible rfl)
  (try simp only [Act.put, List.setIfInBounds_toArray, List.set_cons_zero, List.set_cons_succ])
  refine wpAnyH_take (i := 1) (v := ?_) (by simp only [List.getElem?_toArray, List.getElem?_cons_succ, List.getElem?_cons_zero]; rfl) (by kernel_rfl) (by kernel_rfl) (by kernel_rfl) (fun _ _ _ h => h) (Or.inl ⟨by rfl, ?_⟩) (by assumption) ?_
  rotate_left
  · intro w hSw; (try dsimp only at hSw); go_split_ands; go_simp; (try with_reducible rfl)
  (try simp only [Act.put, List.setIfInBounds_toArray, List.set_cons_zero, List.set_cons_succ])
  refine wpAnyH_take (i := 2) (v := ?_) (by simp only [List.getElem?_toArray, List.getElem?_cons_succ, List.getElem?_cons_zero]; rfl) (by kernel_rfl) (by kernel_rfl) (by kernel_rfl) (fun _ _ _ h => h) (Or.inl ⟨by rfl, ?_⟩) (by assumption) ?_
  rotate_left
  · intro w hSw; (try dsimp only at hSw); go_split_ands; go_simp; (try with_reducible rfl)
  (try simp only [Act.put, List.setIfInBounds_toArray, List.set_cons_zero, List.set_cons_succ])
  refine wpAnyH_take (i := 3) (v := ?_) (by simp only [List.getElem?_toArray, List.getElem?_cons_succ, List.getElem?_cons_zero]; rfl) (by kernel_rfl) (by kernel_rfl) (by kernel_rfl) (fun _ _ _ h => h) (Or.inl ⟨by rfl, ?_⟩) (by assumption) ?_
  rotate_left
  · intro w hSw; (try dsimp only at hSw); go_split_ands; go_simp; (try with_reducible rfl)
  (try simp only [Act.put, List.setIfInBounds_toArray, List.set_cons_zero, List.set_cons_succ])
  refine wpAnyH_take (i := 5) (v := ?_) (by simp only [List.getElem?_toArray, List.getElem?_cons_succ, List.getElem?_cons_zero]; rfl) (by kernel_rfl) (by kernel_rfl) (by kernel_rfl) (fun _ _ _ h => h) (Or.inl ⟨by rfl, ?_⟩) (by assumption) ?_
  rotate_left
  · intro w hSw; (try dsimp only at hSw); go_split_ands; go_simp; (try with_reducible rfl)
  (try simp only [Act.put, List.setIfInBounds_toArray, List.set_cons_zero, List.set_cons_succ])
  refine wpAnyH_take (i := 6) (v := ?_) (by simp only [List.getElem?_toArray, List.getElem?_cons_succ, List.getElem?_cons_zero]; rfl) (by kernel_rfl) (by kernel_rfl) (by kernel_rfl) (fun _ _ _ h => h) (Or.inl ⟨by rfl, ?_⟩) (by assumption) ?_
  rotate_left
  · intro w hSw; (try dsimp only at hSw); go_split_ands; go_simp; (try with_reducible rfl)
  (try simp only [Act.put, List.setIfInBounds_toArray, List.set_cons_zero, List.set_cons_succ])
  refine wpAnyH_ready (rs := [4, 7]) (by kernel_rfl) (by simp) ?_
  refine AllReadyH.cons rfl (fun K hK => ?_) (AllReadyH.cons rfl (fun K hK => ?_) AllReadyH.nil)
  · skip
    go_simp
    refine hK.out _ _ ⟨t0, t1, t2, t3, t4, t5, t6⟩ (fun hHeld => ?_)
    clear hK K
    (try simp only [Act.put, List.setIfInBounds_toArray, List.set_cons_zero, List.set_cons_succ])
    refine wpAnyH_ready (rs := [7]) (by kernel_rfl) (by simp) ?_
    refine AllReadyH.cons rfl (fun K hK => ?_) AllReadyH.nil
    go_simp
    rw [HW4.out]
    refine hK.out _ _ ⟨HY4.out.cell 0, HY4.out.cell 1, HY4.out.cell 2, HY4.out.cell 3, HY4.out.cell 4, HY4.out.cell 5, HY4.out.cell 6⟩ (fun hHeld => ?_)
    clear hK K
    (try simp only [Act.put, List.setIfInBounds_toArray, List.set_cons_zero, List.set_cons_succ])
    refine wpAnyH_ready (rs := [8]) (by kernel_rfl) (by simp) ?_
    refine AllReadyH.cons rfl (fun K hK => ?_) AllReadyH.nil
    go_simp
    go_at_call 42
    refine HI.out.mono ?_
    rintro e w5 ⟨A', c', rfl, happ⟩
    have HAP := Lib.hid happ
    have HBX := Lib.hid (HL4.out.box.mod (Mod.of_app happ) HL4.out.apart)
    have HY5 := Lib.hid (HY4.out.mod (Mod.of_app happ) HNO.out)
    clear happ
    go_wp2_with fail
    refine hK.out _ _ ⟨HY5.out.cell 0, HY5.out.cell 1, HY5.out.cell 2, HY5.out.cell 3, HY5.out.cell 4, HY5.out.cell 5, HY5.out.cell 6⟩ (fun hHeld => ?_)
    clear hK K
    (try simp only [Act.put, List.setIfInBounds_toArray, List.set_cons_zero, List.set_cons_succ])
    refine wpAnyH_take (i := 9) (v := ?_) (by simp only [List.getElem?_toArray, List.getElem?_cons_succ, List.getElem?_cons_zero]; rfl) (by kernel_rfl) (by kernel_rfl) (by kernel_rfl) (fun _ _ _ h => h) (Or.inl ⟨by rfl, ?_⟩) (by assumption) ?_
    rotate_left
    · intro w hSw; (try dsimp only at hSw); go_split_ands; go_simp; (try with_reducible rfl)
    (try simp only [Act.put, List.setIfInBounds_toArray, List.set_cons_zero, List.set_cons_succ])
    refine wpAnyH_take (i := 10) (v := ?_) (by simp only [List.getElem?_toArray, List.getElem?_cons_succ, List.getElem?_cons_zero]; rfl) (by kernel_rfl) (by kernel_rfl) (by kernel_rfl) (fun _ _ _ h => h) (Or.inl ⟨by rfl, ?_⟩) (by assumption) ?_
    rotate_left
    · intro w hSw; (try dsimp only at hSw); go_split_ands; go_simp; (try with_reducible rfl)
    (try simp only [Act.put, List.setIfInBounds_toArray, List.set_cons_zero, List.set_cons_succ])
    refine wpAnyH_ready (rs := [11]) (by kernel_rfl) (by simp) ?_
    refine AllReadyH.cons rfl (fun K hK => ?_) AllReadyH.nil
    have z0 : w5.cell? ⟨g, 0, none⟩ = some (.slice A ms.length c) := HBX.out.cell 0
    have z1 := box_free HBX.out 0
    have HY6 := Lib.hid (HY5.out.mod ((Mod.refl (oneB g) w5).set ⟨g, 0, none⟩ (.slice A' (ms.length + 1) c') (.inl rfl)) HGN.out)
    go_simp
    refine hK.out _ _ ⟨HY6.out.cell 0, HY6.out.cell 1, HY6.out.cell 2, HY6.out.cell 3, HY6.out.cell 4, HY6.out.cell 5, HY6.out.cell 6⟩ (fun hHeld => ?_)
    clear hK K
    (try simp only [Act.put, List.setIfInBounds_toArray, List.set_cons_zero, List.set_cons_succ])
    refine wpAnyH_done (by kernel_rfl) (NoPanic.normal ?_) _
    go_wp2
    go_ret
    have ha := HAP.out
    rw [HE.out, HLL.out] at ha
    refine ⟨A', c', rfl, ?_⟩
    rw [HLL.out]
    exact IxTo.set HL4.out HB4.out ha (by have := HWL.out; have := HF.out; omega) HWR.out
  · skip
    go_simp
    rw [HW4.out]
    refine hK.out _ _ ⟨HY4.out.cell 0, HY4.out.cell 1, HY4.out.cell 2, HY4.out.cell 3, HY4.out.cell 4, HY4.out.cell 5, HY4.out.cell 6⟩ (fun hHeld => ?_)
    clear hK K
    (try simp only [Act.put, List.setIfInBounds_toArray, List.set_cons_zero, List.set_cons_succ])
    refine wpAnyH_ready (rs := [4]) (by kernel_rfl) (by simp) ?_
    refine AllReadyH.cons rfl (fun K hK => ?_) AllReadyH.nil
    have b2 : W4.cell? ⟨g, 0, none⟩ = some (.slice A ms.length c) := HL4.out.box.cell 0
    go_simp
    refine hK.out _ _ ⟨HY4.out.cell 0, HY4.out.cell 1, HY4.out.cell 2, HY4.out.cell 3, HY4.out.cell 4, HY4.out.cell 5, HY4.out.cell 6⟩ (fun hHeld => ?_)
    clear hK K
    (try simp only [Act.put, List.setIfInBounds_toArray, List.set_cons_zero, List.set_cons_succ])
    refine wpAnyH_ready (rs := [8]) (by kernel_rfl) (by simp) ?_
    refine AllReadyH.cons rfl (fun K hK => ?_) AllReadyH.nil
    go_simp
    go_at_call 42
    refine HI.out.mono ?_
    rintro e w5 ⟨A', c', rfl, happ⟩
    have HAP := Lib.hid happ
    have HBX := Lib.hid (HL4.out.box.mod (Mod.of_app happ) HL4.out.apart)
    have HY5 := Lib.hid (HY4.out.mod (Mod.of_app happ) HNO.out)
    clear happ
    go_wp2_with fail
    refine hK.out _ _ ⟨HY5.out.cell 0, HY5.out.cell 1, HY5.out.cell 2, HY5.out.cell 3, HY5.out.cell 4, HY5.out.cell 5, HY5.out.cell 6⟩ (fun hHeld => ?_)
    clear hK K
    (try simp only [Act.put, List.setIfInBounds_toArray, List.set_cons_zero, List.set_cons_succ])
    refine wpAnyH_take (i := 9) (v := ?_) (by simp only [List.getElem?_toArray, List.getElem?_cons_succ, List.getElem?_cons_zero]; rfl) (by kernel_rfl) (by kernel_rfl) (by kernel_rfl) (fun _ _ _ h => h) (Or.inl ⟨by rfl, ?_⟩) (by assumption) ?_
    rotate_left
    · intro w hSw; (try dsimp only at hSw); go_split_ands; go_simp; (try with_reducible rfl)
    (try simp only [Act.put, List.setIfInBounds_toArray, List.set_cons_zero, List.set_cons_succ])
    refine wpAnyH_take (i := 10) (v := ?_) (by simp only [List.getElem?_toArray, List.getElem?_cons_succ, List.getElem?_cons_zero]; rfl) (by kernel_rfl) (by kernel_rfl) (by kernel_rfl) (fun _ _ _ h => h) (Or.inl ⟨by rfl, ?_⟩) (by assumption) ?_
    rotate_left
    · intro w hSw; (try dsimp only at hSw); go_split_ands; go_simp; (try with_reducible rfl)
    (try simp only [Act.put, List.setIfInBounds_toArray, List.set_cons_zero, List.set_cons_succ])
    refine wpAnyH_ready (rs := [11]) (by kernel_rfl) (by simp) ?_
    refine AllReadyH.cons rfl (fun K hK => ?_) AllReadyH.nil
    have z0 : w5.cell? ⟨g, 0, none⟩ = some (.slice A ms.length c) := HBX.out.cell 0
    have z1 := box_free HBX.out 0
    have HY6 := Lib.hid (HY5.out.mod ((Mod.refl (oneB g) w5).set ⟨g, 0, none⟩ (.slice A' (ms.length + 1) c') (.inl rfl)) HGN.out)
    go_simp
    refine hK.out _ _ ⟨HY6.out.cell 0, HY6.out.cell 1, HY6.out.cell 2, HY6.out.cell 3, HY6.out.cell 4, HY6.out.cell 5, HY6.out.cell 6⟩ (fun hHeld => ?_)
    clear hK K
    (try simp only [Act.put, List.setIfInBounds_toArray, List.set_cons_zero, List.set_cons_succ])
    refine wpAnyH_done (by kernel_rfl) (NoPanic.normal ?_) _
    go_wp2
    go_ret
    have ha := HAP.out
    rw [HE.out, HLL.out] at ha
    refine ⟨A', c', rfl, ?_⟩
    rw [HLL.out]
    exact IxTo.set HL4.out HB4.out ha (by have := HWL.out; have := HF.out; omega) HWR.out
end Go.Proofs.YtjoifgeljjgflaaDoor
/- Layer 24: what is put into an index where its name is there already; one is made. -/
namespace Go.Proofs.YtjoifgeljjgflaaDoor
open Go.RowKit

/-- A row in which a segment was laid anew. -/
theorem ownK_seg {w : World} {base : Nat} {e : TypeId} {k n c g o : Nat} {xs : List Value} {cur : Array Value} {cs : List Value} (h : w.ownsRow base e k (.slice (some ⟨g, 0, none⟩) n c) n xs) (hg : w.heap[g]? = some (.cells cur e (0, 0))) (hf : o + cs.length ≤ n * k) :
    (w.setRow g (splice cur.toList o cs).toArray).ownsRow base e k (.slice (some ⟨g, 0, none⟩) n c) n (splice xs o cs) := by
  obtain ⟨cur', hg', htk, hbg, hnc, hcm, hcs, hxl⟩ := ownK_row h
  rw [hg] at hg'
  injection hg' with hg'
  injection hg' with hg'
  subst hg'
  have hnk : n * k ≤ c * k := Nat.mul_le_mul_right _ hnc
  have hl : cur.toList.length = c * k := by rw [Array.length_toList, hcs]
  refine ownK_of (setRow_heap w g cur _ _ _ hg) hbg hnc hcm (by rw [List.size_toArray, length_splice _ _ _ (by omega), hl]) ?_
  show (splice cur.toList o cs).take (n * k) = _
  rw [take_splice hf (by omega), htk]
theorem memCells_set (ms : List LM) (m : LM) (p : Nat) (hp : p < ms.length) : splice (memCells ms) (p * 7) m.cells = memCells (ms.set p m) := by
  unfold splice memCells
  rw [List.set_eq_take_append_cons_drop, if_pos hp, List.map_append, List.flatten_append, List.map_cons, List.flatten_cons, memCells_take, show p * 7 + m.cells.length = (p + 1) * 7 by show p * 7 + 7 = _; omega, memCells_drop]

set_option linter.unusedSimpArgs false in
set_option maxRecDepth 100000 in
set_option maxHeartbeats 4000000 in
theorem ixPut_there (base g : Nat) (A : Option Addr) (c : Nat) (ms : List LM) (m : LM) (w : World) (h : LX w base g A c ms) (hm : m.nm.size ≤ maxLen) (ht : m.B = true) (hh : hasK LM.nm ms m.nm = true) :
    Calls Tryd.prog 22 #[.pointer (some ⟨g, 0, none⟩), aggM m] w fun e w' => ∃ A' c', e = .returned (.int .i64 0) ∧ IxTo w base g A ms.length c (withK LM.nm ms m) w' A' c' := by
  obtain ⟨W0, hW0⟩ : ∃ W0, w.alloc (.cells #[.string m.nm, .int .i64 m.at_, .int .i64 m.fr, .int .i64 m.ar, .int .i64 m.sz, .int .u32 m.su, .int .i64 m.me] 32) = W0 := ⟨_, rfl⟩
  have HB0 : Hid (Below w.heap.size w W0) := by rw [← hW0]; exact (Below.refl _ w).alloc (Nat.le_refl _) _
  have HX0 : Hid (Box W0 w.heap.size #[.string m.nm, .int .i64 m.at_, .int .i64 m.fr, .int .i64 m.ar, .int .i64 m.sz, .int .u32 m.su, .int .i64 m.me] 32) := by rw [← hW0]; exact heap_alloc_new w _
  have HP := Lib.hid (enRight_any m.nm m.at_ m.fr m.ar m.sz m.su m.me W0 hm)
  rw [show memB m.nm m.at_ m.fr m.ar m.sz m.me = true from ht] at HP
  have HH := Lib.hid h
  have HR := Lib.hid (fun W (hW : Below w.heap.size w W) => ixRoom_any base g A c ms m.nm W (h.below hW rfl))
  rw [show roomM ms m.nm = true by simp [roomM, hh]] at HR
  have HPL := Lib.hid (fun W (hW : Below w.heap.size w W) => ixPlace_any base g A c ms m.nm W (h.below hW rfl))
  rw [hh] at HPL
  obtain ⟨x, hx, _⟩ := hasK_there h.ris hh
  have hlt := (List.getElem?_eq_some_iff.1 hx).1
  have hfew := h.few
  obtain ⟨g', c', he⟩ : ∃ g' c', Value.slice A ms.length c = .slice (some ⟨g', 0, none⟩) ms.length c' := by
    rcases ownK_form h.own with ⟨_, h0⟩ | ⟨g', c', he⟩
    · omega
    · exact ⟨g', c', he⟩
  injection he with hA _ hc
  subst hA hc
  have HW := Lib.hid (put_there h.ris m hh)
  have HWL := Lib.hid (len_withK_there h.ris m hh)
  have HWR := Lib.hid (h.ris.withK m)
  obtain ⟨p, hp⟩ : ∃ p, posK LM.nm ms m.nm = p := ⟨_, rfl⟩
  rw [hp] at HPL hlt HW
  have HGX := Lib.hid h.apart
  have HGN : Hid (g' ≠ w.heap.size) := by show _ ≠ _; have := own_lt h.own g' rfl; omega
  obtain ⟨l, hl⟩ : ∃ l, ms.length = l := ⟨_, rfl⟩
  have HL := Lib.hid hl
  have hpi : (p : Int) < (l : Int) := by omega
  have mixed : Tryd.prog.follows Departure.mixedOrders = true := by kernel_rfl
  clear h ht hh hp hx
  obtain ⟨q0, q1, q2, q3, q4, q5, q6, f0, f1, f2, f3, f4, f5, f6⟩ := box7 HX0.out
  go_enter Tryd.func22, Tryd.ntmps22
  go_wp2_with (first
    | (go_at_call 41; refine HP.out.mono ?_; rintro e w1 ⟨rfl, hbel⟩; have HBL1 := Lib.hid (HB0.out.trans (hbel.mono HB0.out.size)); have HX1 := Lib.hid (HX0.out.below hbel HX0.out.lt); obtain ⟨r0, r1, r2, r3, r4, r5, r6, _⟩ := box7 HX1.out; clear hbel HP)
    | (go_at_call 24; refine (HR.out _ HBL1.out).mono ?_; rintro e w2 ⟨rfl, hbel⟩; have HBL2 := Lib.hid (HBL1.out.trans (hbel.mono HBL1.out.size)); have HX2 := Lib.hid (HX1.out.below hbel HX1.out.lt); obtain ⟨s0, s1, s2, s3, s4, s5, s6, _⟩ := box7 HX2.out; clear hbel HR)
    | (go_at_call 40; refine (HPL.out _ HBL2.out).mono ?_; rintro e w3 ⟨rfl, hbel⟩; have HBL3 := Lib.hid (HBL2.out.trans (hbel.mono HBL2.out.size)); have HX3 := Lib.hid (HX2.out.below hbel HX2.out.lt); obtain ⟨t0, t1, t2, t3, t4, t5, t6, _⟩ := box7 HX3.out; clear hbel HPL))
  have HL3 := Lib.hid (HH.out.below HBL3.out rfl)
  have b0 : w3.cell? ⟨g, 0, none⟩ = some (.slice (some ⟨g', 0, none⟩) l c) := by have := HL3.out.box.cell 0; rw [HL.out] at this; exact this
  clear q0 q1 q2 q3 q4 q5 q6 f0 f1 f2 f3 f4 f5 f6 r0 r1 r2 r3 r4 r5 r6 s0 s1 s2 s3 s4 s5 s6
  obtain ⟨cur, hg3, htk, hbg, hnc, hcm, hcs, hxl⟩ := ownK_row HL3.out.own
  have HCU : Hid (w3.drew.heap[g']? = some (.cells cur 32 (0, 0))) := hg3
  obtain ⟨cur1, hc1⟩ : ∃ cur1 : Array Value, (splice cur.toList (p * 7) #[.string m.nm, .int .i64 m.at_, .int .i64 m.fr, .int .i64 m.ar, .int .i64 m.sz, .int .u32 m.su, .int .i64 m.me].toList).toArray = cur1 := ⟨_, rfl⟩
  obtain ⟨W4, hW4⟩ : ∃ W4, w3.drew.setRow g' cur1 = W4 := ⟨_, rfl⟩
  have hm4 : Mod (oneB g') w3 W4 := by rw [← hW4]; exact ⟨rfl, rfl, rfl, by simp, fun k _ hk => setRow_other w3.drew g' k _ hk⟩
  have HY4 : Hid (Box W4 w.heap.size #[.string m.nm, .int .i64 m.at_, .int .i64 m.fr, .int .i64 m.ar, .int .i64 m.sz, .int .u32 m.su, .int .i64 m.me] 32) := HX3.out.mod hm4 (fun hk => HGN.out (show w.heap.size = g' from hk).symm)
  have hBX4 := HL3.out.box.mod hm4 (fun hk => HGX.out (by rw [show g = g' from hk]; rfl))
  have b4 : W4.cell? ⟨g, 0, none⟩ = some (.slice (some ⟨g', 0, none⟩) l c) := by have := hBX4.cell 0; rw [HL.out] at this; exact this
  have hown4 : W4.ownsRow base 32 7 (.slice (some ⟨g', 0, none⟩) ms.length c) ms.length (memCells (withK LM.nm ms m)) := by
    have := ownK_seg (cs := m.cells) (o := p * 7) (w := w3.drew) HL3.out.own hg3 (by show p * 7 + 7 ≤ _; omega)
    rw [memCells_set ms m p (by omega), HW.out] at this
    rw [← hW4, ← hc1]
    exact this
  have HFIN : Hid (IxTo w base g (some ⟨g', 0, none⟩) ms.length c (withK LM.nm ms m) W4 (some ⟨g', 0, none⟩) c) := by
    have e1 : ms.length = (withK LM.nm ms m).length := HWL.out.symm
    refine ⟨⟨by rw [← e1]; exact hBX4, by rw [← e1]; exact hown4, HL3.out.low, by rw [← e1]; omega, HWR.out⟩, ((Mod.of_below HBL3.out).mono (T := ixS g (some ⟨g', 0, none⟩) ms.length c) (fun _ hk => hk.elim)).then_ (hm4.mono (fun k hk => .inr (by rw [show k = g' from hk]; rfl))), fun k hk => .inl ?_⟩
    rw [← e1] at hk
    exact hk
  have HC1 := Lib.hid hc1
  have HW4 := Lib.hid hW4
  clear hc1 hW4 hg3 htk hbg hcm hxl hm4 hBX4 hown4
  refine wp_region_noPanic (wp_region_held_drew (S := (fun V : World => V.cell? ⟨g, 0, none⟩ = some (.slice (some ⟨g', 0, none⟩) l c) ∧ V.cell? ⟨w.heap.size, 0, none⟩ = some (.string m.nm) ∧ V.cell? ⟨w.heap.size, 1, none⟩ = some (.int .i64 m.at_) ∧ V.cell? ⟨w.heap.size, 2, none⟩ = some (.int .i64 m.fr) ∧ V.cell? ⟨w.heap.size, 3, none⟩ = some (.int .i64 m.ar) ∧ V.cell? ⟨w.heap.size, 4, none⟩ = some (.int .i64 m.sz) ∧ V.cell? ⟨w.heap.size, 5, none⟩ = some (.int .u32 m.su) ∧ V.cell? ⟨w.heap.size, 6, none⟩ = some (.int .i64 m.me))) (by kernel_rfl) ⟨b0, t0, t1, t2, t3, t4, t5, t6⟩ (fun hHeld => ?_))
  (try simp only [Act.put, List.setIfInBounds_toArray, List.set_cons_zero, List.set_cons_succ])
  refine wpAnyH_take (i := 0) (v := ?_) (by simp only [List.getElem?_toArray, List.getElem?_cons_succ, List.getElem?_cons_zero]; rfl) (by kernel_rfl) (by kernel_rfl) (by kernel_rfl) (fun _ _ _ h => h) (Or.inl ⟨by rfl, ?_⟩) (by assumption) ?_
  rotate_left
  · intro w hSw; (try dsimp only at hSw); go_split_ands; go_simp; (try with_reducible rfl)
  (try simp only [Act.put, List.setIfInBounds_toArray, List.set_cons_zero, List.set_cons_succ])
  refine wpAnyH_take (i := 1) (v := ?_) (by simp only [List.getElem?_toArray, List.getElem?_cons_succ, List.getElem?_cons_zero]; rfl) (by kernel_rfl) (by kernel_rfl) (by kernel_rfl) (fun _ _ _ h => h) (Or.inl ⟨by rfl, ?_⟩) (by assumption) ?_
  rotate_left
  · intro w hSw; (try dsimp only at hSw); go_split_ands; go_simp; (try with_reducible rfl)
  (try simp only [Act.put, List.setIfInBounds_toArray, List.set_cons_zero, List.set_cons_succ])
  refine wpAnyH_take (i := 2) (v := ?_) (by simp only [List.getElem?_toArray, List.getElem?_cons_succ, List.getElem?_cons_zero]; rfl) (by kernel_rfl) (by kernel_rfl) (by kernel_rfl) (fun _ _ _ h => h) (Or.inl ⟨by rfl, ?_⟩) (by assumption) ?_
  rotate_left
  · intro w hSw; (try dsimp only at hSw); go_split_ands; go_simp; (try with_reducible rfl)
  (try simp only [Act.put, List.setIfInBounds_toArray, List.set_cons_zero, List.set_cons_succ])
  refine wpAnyH_take (i := 3) (v := ?_) (by simp only [List.getElem?_toArray, List.getElem?_cons_succ, List.getElem?_cons_zero]; rfl) (by kernel_rfl) (by kernel_rfl) (by kernel_rfl) (fun _ _ _ h => h) (Or.inl ⟨by rfl, ?_⟩) (by assumption) ?_
  rotate_left
  · intro w hSw; (try dsimp only at hSw); go_split_ands; go_simp; (try with_reducible rfl)
  (try simp only [Act.put, List.setIfInBounds_toArray, List.set_cons_zero, List.set_cons_succ])
  refine wpAnyH_take (i := 4) (v := ?_) (by simp only [List.getElem?_toArray, List.getElem?_cons_succ, List.getElem?_cons_zero]; rfl) (by kernel_rfl) (by kernel_rfl) (by kernel_rfl) (fun _ _ _ h => h) (Or.inl ⟨by rfl, ?_⟩) (by assumption) ?_
  rotate_left
  · intro w hSw; (try dsimp only at hSw); go_split_ands; go_simp; (try with_reducible rfl)
  (try simp only [Act.put, List.setIfInBounds_toArray, List.set_cons_zero, List.set_cons_succ])
  refine wpAnyH_take (i := 5) (v := ?_) (by simp only [List.getElem?_toArray, List.getElem?_cons_succ, List.getElem?_cons_zero]; rfl) (by kernel_rfl) (by kernel_rfl) (by kernel_rfl) (fun _ _ _ h => h) (Or.inl ⟨by rfl, ?_⟩) (by assumption) ?_
  rotate_left
  · intro w hSw; (try dsimp only at hSw); go_split_ands; go_simp; (try with_reducible rfl)
  (try simp only [Act.put, List.setIfInBounds_toArray, List.set_cons_zero, List.set_cons_succ])
  refine wpAnyH_take (i := 6) (v := ?_) (by simp only [List.getElem?_toArray, List.getElem?_cons_succ, List.getElem?_cons_zero]; rfl) (by kernel_rfl) (by kernel_rfl) (by kernel_rfl) (fun _ _ _ h => h) (Or.inl ⟨by rfl, ?_⟩) (by assumption) ?_
  rotate_left
  · intro w hSw; (try dsimp only at hSw); go_split_ands; go_simp; (try with_reducible rfl)
  (try simp only [Act.put, List.setIfInBounds_toArray, List.set_cons_zero, List.set_cons_succ])
  refine wpAnyH_ready (rs := [7]) (by kernel_rfl) (by simp) ?_
  refine AllReadyH.cons rfl (fun K hK => ?_) AllReadyH.nil
  refine step_store_seg (by rfl) 32 _ _ rfl g' (p * 7) #[.string m.nm, .int .i64 m.at_, .int .i64 m.fr, .int .i64 m.ar, .int .i64 m.sz, .int .u32 m.su, .int .i64 m.me] rfl rfl 32 cur HCU.out memSize (by show p * 7 + 7 ≤ cur.size; rw [hcs]; omega) (by simp [Value.oneCell']) ?_
  rw [HC1.out, HW4.out]
  refine hK.out _ _ ⟨b4, HY4.out.cell 0, HY4.out.cell 1, HY4.out.cell 2, HY4.out.cell 3, HY4.out.cell 4, HY4.out.cell 5, HY4.out.cell 6⟩ (fun hHeld => ?_)
  clear hK K
  (try simp only [Act.put, List.setIfInBounds_toArray, List.set_cons_zero, List.set_cons_succ])
  refine wpAnyH_done (by kernel_rfl) (NoPanic.normal ?_) _
  go_wp2
  go_ret
  have hfin := HFIN.out
  rw [HL.out] at hfin
  exact ⟨rfl, some ⟨g', 0, none⟩, c, hfin⟩

theorem ixPut_any (base g : Nat) (A : Option Addr) (c : Nat) (ms : List LM) (m : LM) (w : World) (h : LX w base g A c ms) (hm : m.nm.size ≤ maxLen) (ht : m.B = true) (hr : roomM ms m.nm = true) (hbase : base ≤ w.heap.size) :
    Calls Tryd.prog 22 #[.pointer (some ⟨g, 0, none⟩), aggM m] w fun e w' => ∃ A' c', e = .returned (.int .i64 0) ∧ IxTo w base g A ms.length c (withK LM.nm ms m) w' A' c' := by
  cases hh : hasK LM.nm ms m.nm with
  | true => exact ixPut_there base g A c ms m w h hm ht hh
  | false => exact ixPut_new base g A c ms m w h hm ht hr hh hbase

theorem rises_of (ms : List LM) (h : allB ms = true) : RisM ms := by
  have hg := (allB_true.1 h).2
  rw [RisM, Ris, List.pairwise_iff_getElem]
  intro i j hi hj hij
  have key : ∀ d, i + d + 1 < ms.length → ltN ms[i].nm (ms[i + d + 1]?.getD LM.zero).nm = true := by
    intro d
    induction d with
    | zero =>
      intro hd
      obtain ⟨m, h1, _, h3⟩ := hg (i + 0 + 1) hd
      have h4 := h3 ms[i] (by omega) (List.getElem?_eq_getElem (by omega))
      rw [h1]
      unfold leB at h4
      rw [Bool.or_eq_false_iff] at h4
      exact ltN_gt h4.1 (nmEq_not h4.2)
    | succ d ih =>
      intro hd
      have h0 := ih (by omega)
      obtain ⟨m, h1, _, h3⟩ := hg (i + (d + 1) + 1) hd
      have hp : ms[i + d + 1]? = some ms[i + d + 1] := List.getElem?_eq_getElem (by omega)
      have h4 := h3 ms[i + d + 1] (by omega) hp
      rw [h1]
      rw [hp] at h0
      unfold leB at h4
      rw [Bool.or_eq_false_iff] at h4
      exact ltN_trans h0 (ltN_gt h4.1 (nmEq_not h4.2))
  have := key (j - i - 1) (by omega)
  rw [show i + (j - i - 1) + 1 = j by omega, List.getElem?_eq_getElem hj] at this
  exact this
set_option maxHeartbeats 1000000 in
theorem ixNew_good (A : Option Addr) (l c : Nat) (ms : List LM) (B : Nat) (w : World) (hl : ms.length = l) (hok : ∀ m ∈ ms, m.Ok) (hb : Cells w B A (memCells ms)) (hB : B ≤ w.heap.size) (ht : allB ms = true) :
    Calls Tryd.prog 9 #[.slice A l c] w fun e w' => ∃ g A' c', e = .returned (.tuple #[.pointer (some ⟨g, 0, none⟩), .int .i64 0]) ∧ LX w' w.heap.size g A' c' ms ∧ Below w.heap.size w w' := by
  have HP := Lib.hid (enAll_any A l c ms B w hl hok hb hB)
  have hm := (allB_true.1 ht).1
  have HR := Lib.hid (rises_of ms ht)
  rw [ht] at HP
  have HC := Lib.hid (fun W (hW : Below w.heap.size w W) => ixClone_any A l c ms B W hl (by omega) (hb.below hW hB))
  have HL := Lib.hid hl
  clear hb hok hl ht
  go_enter Tryd.func9, Tryd.ntmps9
  go_wp2_with (first
    | (go_at_call 27; refine HP.out.mono ?_; rintro e w1 ⟨rfl, hbel⟩; have HBL := Lib.hid hbel; clear hbel HP)
    | (go_at_call 28; refine (HC.out _ HBL.out).mono ?_; rintro e w2 ⟨A', c', rfl, hown, hbel⟩; have HOWN := Lib.hid hown; have HBL2 := Lib.hid (HBL.out.trans (hbel.mono HBL.out.size)); clear hbel hown HC))
  go_ret2
  have ho : w2.ownsRow w.heap.size 32 7 (.slice A' l c') l (memCells ms) := ⟨HOWN.out.1, by
    rcases HOWN.out.2 with h | ⟨g, cap, cur, h1, h2, h3⟩
    · exact .inl h
    · exact .inr ⟨g, cap, cur, h1, Nat.le_trans HBL.out.size h2, h3⟩⟩
  refine ⟨w2.heap.size, A', c', rfl, ⟨by rw [HL.out]; exact heap_alloc_new w2 _, ?_, HBL2.out.size, by have := HL.out; omega, HR.out⟩, HBL2.out.alloc HBL2.out.size _⟩
  rw [HL.out]
  exact ho.alloc _
end Go.Proofs.YtjoifgeljjgflaaDoor
