/- Layer 24: those that a folder has stand one behind the other. Plain. -/
import Derived.Test.YtjoifgeljjgflaaDoorMgQ14420
import Derived.Test.YtjoifgeljjgflaaDoorMgQ14431
import Derived.Test.YtjoifgeljjgflaaDoorMgQ14430
import Derived.Test.YtjoifgeljjgflaaDoorMgQ144SEnV
namespace Go.Proofs.YtjoifgeljjgflaaDoor

theorem pre_mid : ∀ p a b c : List UInt8, p <+: a → p <+: c → Op.bytesLess a b = true → Op.bytesLess b c = true → p <+: b
  | [], _, _, _, _, _, _, _ => List.nil_prefix
  | x :: p, a, b, c, h1, h2, h3, h4 => by
    obtain ⟨t1, rfl⟩ := h1
    obtain ⟨t2, rfl⟩ := h2
    cases b with
    | nil => simp [Op.bytesLess] at h3
    | cons y b =>
      simp only [List.cons_append, Op.bytesLess, Bool.or_eq_true, decide_eq_true_eq, Bool.and_eq_true, beq_iff_eq] at h3 h4
      rcases h3 with h3 | ⟨rfl, h3⟩
      · rcases h4 with h4 | ⟨rfl, _⟩
        · exact absurd (UInt8.lt_trans h3 h4) (UInt8.lt_irrefl _)
        · exact absurd h3 (UInt8.lt_irrefl _)
      · rcases h4 with h4 | ⟨_, h4⟩
        · exact absurd h4 (UInt8.lt_irrefl _)
        · obtain ⟨t, ht⟩ := pre_mid p (p ++ t1) b (p ++ t2) ⟨t1, rfl⟩ ⟨t2, rfl⟩ h3 h4
          exact ⟨t, by rw [← ht]; rfl⟩
theorem pre_ge : ∀ p x : List UInt8, p <+: x → Op.bytesLess x p = false
  | [], x, _ => by cases x <;> rfl
  | a :: p, x, h => by
    obtain ⟨t, rfl⟩ := h
    have := pre_ge p (p ++ t) ⟨t, rfl⟩
    simp [Op.bytesLess, this, UInt8.lt_irrefl]
abbrev inM (f : ByteArray) (m : LM) : Bool := inF f m.nm
def inL (f : ByteArray) (ms : List LM) : List LM := ms.filter (inM f)
theorem nm_right {ms : List LM} (h : GoodL ms) {m : LM} (hm : m ∈ ms) : rightB m.nm.data.toList = true := by
  have h2 := (h.all m hm).1
  unfold LM.B memB at h2
  simp only [Bool.and_eq_true] at h2
  exact h2.1.1.1.1.1
theorem inF_mid {f a b c : ByteArray} (hb : rightB b.data.toList = true) (h1 : inF f a = true) (h2 : inF f c = true) (h3 : ltN a b = true) (h4 : ltN b c = true) : inF f b = true := by
  unfold inF at h1 h2 ⊢
  simp only [Bool.and_eq_true, Bool.or_eq_true, decide_eq_true_eq, List.isPrefixOf_iff_prefix] at h1 h2 ⊢
  refine ⟨hb, ?_⟩
  rcases h1.2 with h | h
  · exact .inl h
  · rcases h2.2 with h' | h'
    · exact .inl h'
    · refine .inr ⟨h.1, ?_⟩
      unfold ltN at h3 h4
      rw [ByteArray.toList_eq, ByteArray.toList_eq] at h3 h4
      exact pre_mid _ _ _ _ h.2 h'.2 h3 h4
theorem inF_lt {f s : ByteArray} (h : ltN s f = true) : inF f s = false := by
  cases e : inF f s with
  | false => rfl
  | true =>
    unfold inF at e
    simp only [Bool.and_eq_true, Bool.or_eq_true, decide_eq_true_eq, List.isPrefixOf_iff_prefix] at e
    unfold ltN at h
    rw [ByteArray.toList_eq, ByteArray.toList_eq] at h
    rcases e.2 with e | e
    · rw [nil_size e] at h
      rw [show (⟨#[]⟩ : ByteArray).data.toList = [] from rfl] at h
      cases hs : s.data.toList with
      | nil => rw [hs] at h; cases h
      | cons x l => rw [hs] at h; cases h
    · have := pre_ge f.data.toList s.data.toList ((List.prefix_append _ _).trans e.2)
      rw [this] at h; cases h
theorem inL_drop {ms : List LM} (h : RisM ms) (f : ByteArray) : inL f (ms.drop (posK LM.nm ms f)) = inL f ms := by
  conv => rhs; rw [← List.take_append_drop (posK LM.nm ms f) ms]
  unfold inL
  rw [List.filter_append]
  have : (ms.take (posK LM.nm ms f)).filter (inM f) = [] := by
    rw [List.filter_eq_nil_iff]
    intro x hx
    obtain ⟨i, hi⟩ := List.mem_iff_getElem?.1 hx
    have hl := (List.getElem?_eq_some_iff.1 hi).1
    rw [List.length_take] at hl
    rw [List.getElem?_take_of_lt (by omega)] at hi
    have := (posK_iff h f i x hi).2 (by omega)
    simp [inM, inF_lt this]
  rw [this, List.nil_append]
/-- Behind those that a folder has there are no further ones. -/
theorem inL_stop {pre rest : List LM} {x : LM} {f : ByteArray} (hr : RisM (pre ++ x :: rest)) (hx : rightB x.nm.data.toList = true) (hne : inL f pre ≠ []) (hn : inM f x = false) : inL f (pre ++ x :: rest) = inL f pre := by
  unfold inL at hne ⊢
  rw [List.filter_append, List.filter_cons_of_neg (by simp [hn])]
  have : rest.filter (inM f) = [] := by
    rw [List.filter_eq_nil_iff]
    intro y hy hin
    obtain ⟨a, ha⟩ := List.exists_mem_of_ne_nil _ hne
    obtain ⟨ha1, ha2⟩ := List.mem_filter.1 ha
    rw [RisM, Ris, List.pairwise_append] at hr
    have h1 := hr.2.2 a ha1 x (List.mem_cons_self ..)
    have h2 := (List.pairwise_cons.1 hr.2.1).1 y hy
    have := inF_mid hx ha2 hin h1 h2
    rw [show inM f x = inF f x.nm from rfl, this] at hn
    cases hn
  rw [this, List.append_nil]
theorem inL_snoc (f : ByteArray) (pre : List LM) (x : LM) : inL f (pre ++ [x]) = if inM f x then inL f pre ++ [x] else inL f pre := by
  unfold inL
  rw [List.filter_append]
  cases h : inM f x with
  | true => simp [h]
  | false => simp [h]
end Go.Proofs.YtjoifgeljjgflaaDoor
/- Layer 24: the chapter's example; which members are gone through; the reference's Find, Room, Bytes. -/
namespace Go.Proofs.YtjoifgeljjgflaaDoor
open Go.RowKit

set_option maxHeartbeats 400000 in
theorem one24_any (w : World) : Calls Tryd.prog 26 #[] w fun e w' => e = .returned (aggM memA) ∧ Below w.heap.size w w' := by
  have HB0 := fun o => Lib.hid ((Below.refl w.heap.size w).alloc (Nat.le_refl _) o)
  go_enter Tryd.func26, Tryd.ntmps26
  go_wp2
  refine bodyPost_ret (v := aggM memA) ?_ rfl ⟨rfl, (HB0 _).out⟩
  exact results_cell_row rfl _ _ w.heap.size 32 _ (0, 0) _ rfl (heap_alloc_new w _) Tryd.underlying32 rfl memSize

set_option maxRecDepth 100000 in
set_option maxHeartbeats 4000000 in
theorem lives24_any (w : World) : Calls Tryd.prog 8 #[] w fun e w' => e = .returned (.bool true) ∧ Below w.heap.size w w' := by
  have HN := Lib.hid (ixNew_good none 0 0 [] w.heap.size w rfl (fun _ h => by cases h) (Cells.nil _ _ _) (Nat.le_refl _) (allB_of (by decide) (fun j hj => absurd hj (Nat.not_lt_zero _))))
  have HO := Lib.hid (fun W => one24_any W)
  have HMB : Hid (memA.B = true) := memA_B
  have hroom : roomM [] memA.nm = true := rfl
  have hwith : withK LM.nm [] memA = [memA] := rfl
  have hhas : hasK LM.nm [memA] ⟨#[97]⟩ = true := by decide
  have hget : getM [memA] ⟨#[97]⟩ = memA := by unfold getM findK; simp [memA]
  have hrows : rowsM [memA] = 19 := rfl
  go_enter Tryd.func8, Tryd.ntmps8
  go_wp2_with fail
  refine HN.out.mono ?_
  rintro e w1 ⟨g, A1, c1, rfl, hix, hbel⟩
  have HB1 := Lib.hid hbel
  have HX1 := Lib.hid hix
  clear hix hbel HN
  go_wp2_with fail
  refine (HO.out _).mono ?_
  rintro e w2 ⟨rfl, hbel⟩
  have HB2 := Lib.hid (HB1.out.trans (hbel.mono HB1.out.size))
  have HX2 := Lib.hid (HX1.out.below hbel rfl)
  clear hbel
  have HPT := Lib.hid (ixPut_any w.heap.size g A1 c1 [] memA w2 HX2.out (by decide) HMB.out hroom HB2.out.size)
  rw [hwith] at HPT
  go_wp2_with fail
  refine HPT.out.mono ?_
  rintro e w3 ⟨A3, c3, rfl, hix⟩
  have HX3 := Lib.hid hix.ix
  have HB3 := Lib.hid (hix.mod.below HB2.out HB2.out.size (fun k hk => (HX2.out.lts k hk).2))
  clear hix
  have HG := Lib.hid (ixGet_any w.heap.size g A3 c3 [memA] ⟨#[97]⟩ w3 HX3.out)
  rw [hget, hhas] at HG
  go_wp2_with fail
  refine HG.out.mono ?_
  rintro e w4 ⟨rfl, hbel⟩
  have HB4 := Lib.hid (HB3.out.trans (hbel.mono HB3.out.size))
  have HX4 := Lib.hid (HX3.out.below hbel rfl)
  clear hbel
  obtain ⟨W5, hW5⟩ : ∃ W5, w4.alloc (.cells #[.string memA.nm, .int .i64 memA.at_, .int .i64 memA.fr, .int .i64 memA.ar, .int .i64 memA.sz, .int .u32 memA.su, .int .i64 memA.me] 32) = W5 := ⟨_, rfl⟩
  have HB5 : Hid (Below w.heap.size w W5) := by show Below _ _ _; rw [← hW5]; exact HB4.out.alloc HB4.out.size _
  have HX5 : Hid (LX W5 w.heap.size g A3 c3 [memA]) := HX4.out.below (by rw [← hW5]; exact (Below.refl _ w4).alloc (Nat.le_refl _) _) rfl
  have HBX : Hid (Box W5 w4.heap.size #[.string memA.nm, .int .i64 memA.at_, .int .i64 memA.fr, .int .i64 memA.ar, .int .i64 memA.sz, .int .u32 memA.su, .int .i64 memA.me] 32) := by show Box _ _ _ _; rw [← hW5]; exact heap_alloc_new w4 _
  have HHW := Lib.hid hW5
  clear hW5
  go_wp2_with fail
  rw [HHW.out]
  obtain ⟨ι, f, n0, hf0, hfb, hfu⟩ := below_class W5
  have HFU := Lib.hid hfu
  have HFB := Lib.hid hfb
  have HXF := Lib.hid (fun n => HX5.out.below (hfb n) rfl)
  have y0 : ∀ n, (f n).cell? ⟨w4.heap.size, 0, none⟩ = some (.string memA.nm) := fun n => (HBX.out.below (HFB.out n) HBX.out.lt).cell 0
  have y1 : ∀ n, (f n).cell? ⟨w4.heap.size, 1, none⟩ = some (.int .i64 memA.at_) := fun n => (HBX.out.below (HFB.out n) HBX.out.lt).cell 1
  have y2 : ∀ n, (f n).cell? ⟨w4.heap.size, 2, none⟩ = some (.int .i64 memA.fr) := fun n => (HBX.out.below (HFB.out n) HBX.out.lt).cell 2
  have y3 : ∀ n, (f n).cell? ⟨w4.heap.size, 3, none⟩ = some (.int .i64 memA.ar) := fun n => (HBX.out.below (HFB.out n) HBX.out.lt).cell 3
  have y4 : ∀ n, (f n).cell? ⟨w4.heap.size, 4, none⟩ = some (.int .i64 memA.sz) := fun n => (HBX.out.below (HFB.out n) HBX.out.lt).cell 4
  have y5 : ∀ n, (f n).cell? ⟨w4.heap.size, 5, none⟩ = some (.int .u32 memA.su) := fun n => (HBX.out.below (HFB.out n) HBX.out.lt).cell 5
  have y6 : ∀ n, (f n).cell? ⟨w4.heap.size, 6, none⟩ = some (.int .i64 memA.me) := fun n => (HBX.out.below (HFB.out n) HBX.out.lt).cell 6
  haveI : Nonempty ι := ⟨n0⟩
  clear hfb hfu
  refine region_quiet_f f n0 hf0 (by kernel_rfl) (by kernel_rfl) ?_
  have HLN := Lib.hid (fun n => ixLen_any w.heap.size g A3 c3 [memA] (f n) (HXF.out n))
  have HBY := Lib.hid (fun n => ixBytes_any w.heap.size g A3 c3 [memA] (f n) (HXF.out n) (by rw [hrows]; decide))
  rw [hrows] at HBY
  have HLE : Hid (((([memA] : List LM).length : Nat) : Int) = 1) := rfl
  rw [HLE.out] at HLN
  repeat (go_big_quiet_step (first | (go_at_call 26; exact quiet_f HFU.out (HO.out _)) | (go_at_call 12; exact (HLN.out _).mono (fun _ _ ⟨h1, h2⟩ => ⟨h1, _, h2.symm⟩)) | (go_at_call 15; exact quiet_f HFU.out (HBY.out _))))
  refine wpQuiet_nil ?_
  rintro _ ⟨nq, rfl⟩
  have HB6 := Lib.hid (HB5.out.trans ((HFB.out nq).mono HB5.out.size))
  generalize f nq = w6 at *
  go_wp2
  go_ret
  exact ⟨rfl, HB6.out⟩
end Go.Proofs.YtjoifgeljjgflaaDoor
