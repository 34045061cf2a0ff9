/- Layer 15: whether a name may be. -/
import Derived.Test.YtfnkbpcimbldbaaDoorSplit
import Derived.Test.YtfnkbpcimbldbaaDoorMgQ324STail
import Derived.Lib.OthersKept
import Derived.Laws.RangeAny
namespace Go.Proofs.YtfnkbpcimbldbaaDoor
open Go.RowKit Go.Shelf
attribute [local go_sem] Oper.semAt_some

/-- A sign that may be. -/
def signB (x : UInt8) : Bool := decide (33 ≤ x.toNat) && decide (x.toNat ≤ 126)
/-- A part that may be. -/
def partM (p : List UInt8) : Bool := !(decide (p = []) || decide (p = [46]) || decide (p = [46, 46]))
/-- May a name be? -/
def rightB (l : List UInt8) : Bool := decide (1 ≤ l.length) && decide (l.length ≤ 64) && l.all signB && (partsS l).all partM

set_option maxHeartbeats 1000000 in
theorem splitSeq_any (s p : ByteArray) (w : World) :
    Calls Tryd.prog 36 #[.string s, .string p] w fun e w' => e = .returned (.func (.func 49) #[] #[.pointer (some ⟨w.heap.size + 1, 0, none⟩), .pointer (some ⟨w.heap.size, 0, none⟩), .pointer (some ⟨w.heap.size + 2, 0, none⟩)]) ∧
      ((w.alloc (.cells #[.string s] 9)).alloc (.cells #[.string p] 9)).alloc (.cells #[.int .i64 0] 3) = w' := by
  go_enter Tryd.func36, Tryd.ntmps36
  go_wp2
  go_ret
  exact ⟨rfl, rfl⟩

theorem rightB_long {l : List UInt8} (h : 64 < l.length) : rightB l = false := by
  unfold rightB
  rw [decide_eq_false (show ¬ l.length ≤ 64 by omega), Bool.and_false, Bool.false_and, Bool.false_and]
theorem rightB_sign {l : List UInt8} {k : Nat} {x : UInt8} (h : l[k]? = some x) (hx : signB x = false) : rightB l = false := by
  unfold rightB
  have : l.all signB = false := by
    rw [List.all_eq_false]
    exact ⟨x, List.mem_of_getElem? h, by rw [hx]; decide⟩
  rw [this, Bool.and_false, Bool.false_and]

theorem iterPos_of {w : World} {k p : Nat} {s : ByteArray} (h : w.heap[k]? = some (.stringIter s p)) : w.iterPos k = p := by unfold World.iterPos; rw [h]

set_option maxRecDepth 100000 in
set_option maxHeartbeats 4000000 in
theorem rightM_any (s : ByteArray) (w : World) (hm : s.size ≤ maxLen) :
    Calls Tryd.prog 22 #[.string s] w fun e w' => e = .returned (.bool (rightB s.data.toList)) ∧ Below w.heap.size w w' := by
  have hln : s.data.toList.length = s.size := by rw [Array.length_toList]; rfl
  unfold maxLen at hm
  by_cases h0 : s.size = 0
  · have he : s = ⟨#[]⟩ := by
      apply ByteArray.ext
      exact Array.eq_empty_of_size_eq_zero h0
    subst he
    go_enter Tryd.func22, Tryd.ntmps22
    go_wp2
    exact bodyPost_ret (v := .bool false) (by simp [results, Tryd.results22, go_sem]) rfl ⟨rfl, (Below.refl _ _).alloc (Nat.le_refl _) _⟩
  have hne : ¬ s.toList = [] := by
    rw [ByteArray.toList_eq]
    exact fun e => h0 (by rw [← hln, e]; rfl)
  have hne1 : s.toList.isEmpty = false := by simpa using hne
  by_cases h64 : 64 < s.size
  · have HR := Lib.hid (rightB_long (l := s.data.toList) (by omega))
    have h64' : (64 : Int) < (s.size : Int) := by omega
    clear hln
    go_enter Tryd.func22, Tryd.ntmps22
    go_wp2
    exact bodyPost_ret (v := .bool false) (by simp [results, Tryd.results22, go_sem]) rfl ⟨by rw [HR.out], (Below.refl _ _).alloc (Nat.le_refl _) _⟩
  have h64' : ¬ (64 : Int) < (s.size : Int) := by omega
  have HLN := Lib.hid hln
  clear hln
  refine (callsIn_wide (n := 6)).1 ?_
  refine callsIn_of_wp_marks Tryd.func22 rfl trivial ?_ rfl
  simp only [Tryd.ntmps22, List.size_toArray, List.length_cons, List.length_nil, Nat.reduceAdd, Nat.reduceSub, Array.replicate_succ, Array.replicate_zero, List.push_toArray, List.append_toArray, List.nil_append, List.cons_append]
  gi_wp2
  have hit0 : ((w.alloc (.cells #[.bool false] 4)).iter s 0).heap[w.heap.size + 1]? = some (.stringIter s 0) := by
    have := World.alloc_heap_new (w.alloc (.cells #[.bool false] 4)) (.stringIter s 0)
    rwa [World.size_alloc] at this
  have hbx0 : Box ((w.alloc (.cells #[.bool false] 4)).iter s 0) w.heap.size #[.bool false] 4 := Box.alloc (heap_alloc_new w _) _
  have hbl0 : Below w.heap.size w ((w.alloc (.cells #[.bool false] 4)).iter s 0) := ((Below.refl _ w).alloc (Nat.le_refl _) _).alloc (by simp) _
  have hsz0 : ((w.alloc (.cells #[.bool false] 4)).iter s 0).heap.size = w.heap.size + 2 := by show (World.alloc _ _).heap.size = _; simp
  have HIT0 := Lib.hid hit0
  have HBX0 := Lib.hid hbx0
  have HBL0 := Lib.hid hbl0
  have HSZ0 := Lib.hid hsz0
  clear hit0 hbx0 hbl0 hsz0
  gi_loopw [4] (fun _ wr => ∃ k : Nat, k ≤ s.size ∧ (s.data.toList.take k).all signB = true ∧ wr.heap[w.heap.size + 1]? = some (.stringIter s k) ∧ Box wr w.heap.size #[.bool false] 4 ∧ Below w.heap.size w wr ∧ wr.heap.size = w.heap.size + 2) (fun _ wr => s.size - wr.iterPos (w.heap.size + 1))
  case atStart => exact ⟨0, Nat.zero_le _, rfl, HIT0.out, HBX0.out, HBL0.out, HSZ0.out⟩
  case round =>
    clear HIT0 HBX0 HBL0 HSZ0
    obtain ⟨k, hk, hall, hit, hbx, hbl, hsz⟩ := hrel
    have HALL := Lib.hid hall
    have HIT := Lib.hid hit
    have HBX := Lib.hid hbx
    have HBL := Lib.hid hbl
    have HSZ := Lib.hid hsz
    clear hall hbx hbl hsz
    by_cases hlt : k < s.size
    · obtain ⟨x, hxk⟩ : ∃ x, s.data.toList[k]? = some x := ⟨_, List.getElem?_eq_getElem (by rw [HLN.out]; exact hlt)⟩
      have hsx : s[k]'hlt = x := by
        rw [List.getElem?_eq_getElem (by rw [HLN.out]; exact hlt)] at hxk
        injection hxk
      have HI2 : Hid (∀ j, (wr.iterAt (w.heap.size + 1) s j).heap[w.heap.size + 1]? = some (.stringIter s j)) := fun j => Lib.iterAt_heap _ _ _ _ _ HIT.out
      have HB2 : Hid (∀ j, Box (wr.iterAt (w.heap.size + 1) s j) w.heap.size #[.bool false] 4) := fun j => (Lib.iterAt_other _ _ _ _ _ (by omega)).trans HBX.out
      have HL2 : Hid (∀ j, Below w.heap.size w (wr.iterAt (w.heap.size + 1) s j)) := fun j => Lib.below_iterAt HBL.out (by omega) _ _
      have HZ2 : Hid (∀ j, (wr.iterAt (w.heap.size + 1) s j).heap.size = w.heap.size + 2) := fun j => (Lib.iterAt_size _ _ _ _).trans HSZ.out
      have hxl : x.toNat < 256 := UInt8.toNat_lt x
      by_cases hgood : signB x = true
      · obtain ⟨g1, g2⟩ : 33 ≤ x.toNat ∧ x.toNat ≤ 126 := by simpa [signB] using hgood
        have hnx := fun ty => Lib.run_next_ascii_at (P := Tryd.prog) wr (w.heap.size + 1) s k ty HIT.out hlt (by rw [hsx]; omega)
        simp only [hsx] at hnx
        have hall2 : (s.data.toList.take (k + 1)).all signB = true := by
          rw [List.take_add_one, hxk, List.all_append, HALL.out]
          simp [hgood]
        have HA2 := Lib.hid hall2
        have c1 : ¬ (x.toNat : Int) < 33 := by omega
        have c2 : ¬ (126 : Int) < (x.toNat : Int) := by omega
        clear hall2 hxk hsx hgood hit
        generalize x.toNat = xn at *
        gi_wp2
        refine ⟨⟨k + 1, by omega, HA2.out, HI2.out _, HB2.out _, HL2.out _, HZ2.out _⟩, ?_⟩
        rw [iterPos_of (HI2.out (k + 1)), iterPos_of HIT.out]
        omega
      · have HR := Lib.hid (rightB_sign hxk (by simpa using hgood))
        have hnx := fun ty => Lib.run_next_any_at (P := Tryd.prog) wr (w.heap.size + 1) s k ty HIT.out hlt
        have hr : (Utf8.decode s k).1 < 33 ∨ 126 < (Utf8.decode s k).1 := by
          by_cases h128 : x.toNat < 128
          · rw [decode_ascii s k hlt (by rw [hsx]; exact h128), hsx]
            have : ¬ (33 ≤ x.toNat ∧ x.toNat ≤ 126) := by simpa [signB] using hgood
            show x.toNat < 33 ∨ 126 < x.toNat
            omega
          · have := (decode_high s k hlt (by rw [hsx]; omega)).1
            omega
        generalize (Utf8.decode s k).1 = r at *
        generalize (Utf8.decode s k).2 = d at *
        have HB3 := Lib.hid (HB2.out (k + d))
        have HL3 := Lib.hid (HL2.out (k + d))
        clear HB2 HL2 HI2 HZ2 hsx hxk hgood hxl hit
        generalize wr.iterAt (w.heap.size + 1) s (k + d) = w3 at *
        have c0 : w3.cell? ⟨w.heap.size, 0, none⟩ = some (.bool false) := HB3.out.cell 0
        have f0 := frozen_of_row w3 w.heap.size 0 _ _ HB3.out
        rcases hr with hr | hr
        · have c1 : (r : Int) < 33 := by omega
          gi_wp2
          refine ⟨.bool false, by simp [results, Tryd.results22, go_sem, c0], by rw [HR.out], HL3.out.setCell (p := ⟨w.heap.size, 0, none⟩) (Nat.le_refl _) _⟩
        · have c1 : ¬ (r : Int) < 33 := by omega
          have c2 : (126 : Int) < (r : Int) := by omega
          gi_wp2
          refine ⟨.bool false, by simp [results, Tryd.results22, go_sem, c0], by rw [HR.out], HL3.out.setCell (p := ⟨w.heap.size, 0, none⟩) (Nat.le_refl _) _⟩
    · obtain rfl : k = s.size := by omega
      have HSG : Hid (s.data.toList.all signB = true) := by
        have := HALL.out
        rwa [List.take_of_length_le (by rw [HLN.out]; exact Nat.le_refl _)] at this
      have hnx := fun ty => Lib.run_next_end_at (P := Tryd.prog) wr (w.heap.size + 1) s s.size ty HIT.out (by omega)
      clear HALL hlt hit
      gi_wp2_with (refine ⟨trivial, ?_⟩; gi_at_call 36; refine (callsIn_wide.2 (splitSeq_any s ⟨#[47]⟩ wr)).mono ?_; rintro e w4 ⟨rfl, hw4⟩)
      have hN := HSZ.out
      have hs4 : w4.heap[wr.heap.size]? = some (.cells #[.string s] 9) := by rw [← hw4]; exact Box.alloc (Box.alloc (heap_alloc_new wr _) _) _
      have hp4 : w4.heap[wr.heap.size + 1]? = some (.cells #[.string ⟨#[47]⟩] 9) := by
        rw [← hw4]
        have h := heap_alloc_new (wr.alloc (.cells #[.string s] 9)) (.cells #[.string ⟨#[47]⟩] 9)
        rw [World.size_alloc] at h
        exact Box.alloc h _
      have hv4 : w4.heap[wr.heap.size + 2]? = some (.cells #[.int .i64 0] 3) := by
        rw [← hw4]
        have h := heap_alloc_new ((wr.alloc (.cells #[.string s] 9)).alloc (.cells #[.string ⟨#[47]⟩] 9)) (.cells #[.int .i64 0] 3)
        rw [World.size_alloc, World.size_alloc] at h
        exact h
      have hb4 : Below w.heap.size w w4 := by rw [← hw4]; exact ((HBL.out.alloc HBL.out.size _).alloc (by simp; omega) _).alloc (by simp; omega) _
      have hx4 : w4.heap[w.heap.size]? = some (.cells #[.bool false] 4) := by rw [← hw4]; exact Box.alloc (Box.alloc (Box.alloc HBX.out _) _) _
      have hz4 : w4.heap.size = wr.heap.size + 3 := by rw [← hw4]; simp
      have HB4 := Lib.hid hb4
      clear hw4 hnx hb4
      obtain ⟨t, ht⟩ : ∃ t : List UInt8, s = ⟨t.toArray⟩ := ⟨s.data.toList, by apply ByteArray.ext; simp⟩
      have htl : t.length ≤ 64 := by rw [ht, txt_size] at h64; omega
      have HRT : Hid (rightB s.data.toList = (partsS t).all partM) := by
        show _ = _
        have h1 := HSG.out
        have h2 := HLN.out
        unfold rightB
        rw [h1, h2, decide_eq_true (show 1 ≤ s.size by omega), decide_eq_true (show s.size ≤ 64 by omega), ht]
        simp
      rw [ht] at hs4
      have HS4 := Lib.hid hs4
      have HP4 := Lib.hid hp4
      have HV4 := Lib.hid hv4
      have HX4 := Lib.hid hx4
      have HZ4 := Lib.hid hz4
      have HT := Lib.hid ht
      clear hs4 hp4 hv4 hx4 hz4 ht
      generalize hNN : wr.heap.size = N at *
      clear hNN
      have HNW := Lib.hid hN
      clear hN
      gi_wp2
      refine wpIn_rangeFunc_S rfl (by omega) (gf := 49) (lb := #[.pointer (some ⟨N + 1, 0, none⟩), .pointer (some ⟨N, 0, none⟩), .pointer (some ⟨N + 2, 0, none⟩)]) rfl trivial (enters_of Tryd.func49 (by kernel_rfl) rfl)
        (encs := fun x : List UInt8 => #[.string ⟨x.toArray⟩]) (Kp := KeepT (T3 (N + 1) N (N + 2))) (T := fun k => k = N) (S := fun ys => ys = partsS t) (Sp := fun pre => pre <+: partsS t) (N := (partsS t).length) (w0 := w4) ?seq
        (fun r hr => by subst hr; have := HZ4.out; omega) (fun h k => h.trans k) (fun W l o o' hl _ _ _ => KeepT.putObj (n := w4.heap.size) (fun k hk => by have := HZ4.out; rcases hk with rfl | rfl | rfl <;> omega) W l o' hl) (Below.refl _ _) (fun _ => rfl)
        (fun pre W => (∀ p ∈ pre, partM p = true) ∧ W.heap[w.heap.size]? = some (.cells #[.bool false] 4) ∧ Below w.heap.size w W)
        (fun c pre W => (c = .ret ∧ ∃ p ∈ pre, partM p = false) ∧ W.heap[w.heap.size]? = some (.cells #[.bool false] 4) ∧ Below w.heap.size w W)
        (ownS_pure.and ((ownS_cells (cs := fun _ => #[.bool false]) (by have := HNW.out; omega)).and (ownS_below (Nat.le_refl _) (by have := HZ4.out; have := HNW.out; omega) (fun r hr => by subst hr; have := HNW.out; omega))))
        (fun c => ownS_pure.and ((ownS_cells (cs := fun _ => #[.bool false]) (by have := HNW.out; omega)).and (ownS_below (Nat.le_refl _) (by have := HZ4.out; have := HNW.out; omega) (fun r hr => by subst hr; have := HNW.out; omega))))
        ⟨fun _ h => (by cases h), HX4.out, HB4.out⟩
        (fun x => { tmps := #[.string s, undef, .pointer (some ⟨w.heap.size, 0, none⟩), undef, u4, .string ⟨x.toArray⟩, .string s, .bool false, .bool false, .string s, .int .i64 s.size, .bool false, .bool false, .string s, .pointer (some ⟨w.heap.size + 1, 0, none⟩), .tuple #[.bool false], .bool false, u17, u18, u19, u20, u21, u22, u23, .string s, .func (.func 49) #[] #[.pointer (some ⟨N + 1, 0, none⟩), .pointer (some ⟨N, 0, none⟩), .pointer (some ⟨N + 2, 0, none⟩)], .string ⟨x.toArray⟩, undef, undef, undef, undef, undef, undef, undef, undef, undef, undef], defers := [] }) ?assign ?body ?done ?stop
      case seq =>
        intro l J Jx W hb hJ hJx hY h0
        have hz := HZ4.out
        exact split_in Fence.wide 5 trivial trivial (fun s w => callsIn_wide.2 (strings_Index_one s 47 w)) rfl (by omega) l (N + 1) N (N + 2) t (by omega) (by omega) J Jx
          (fun pre W' v hj => hJ pre W' _ (some N) hj ⟨rfl, rfl, rfl, by simp [World.setCell], fun k _ hk => Below.heap_setCell W' _ v k (fun e => hk (by rw [e]))⟩ (fun r e => .inl (by cases e; rfl))) (by omega) hY W
          ((hb.block _ (by omega)).trans HP4.out) ((hb.block _ (by omega)).trans HS4.out) ((hb.block _ (by omega)).trans HV4.out) h0
      case assign =>
        intro l x W K hK
        gi_wp2
        exact hK
      case body =>
        rintro l pre x W ⟨hpre, hbx, hbl⟩ hlen
        have HPRE := Lib.hid hpre
        have HBXW := Lib.hid hbx
        have HBLW := Lib.hid hbl
        have c0 := cell_of_row W w.heap.size 0 _ _ _ hbx
        have f0 := frozen_of_row W w.heap.size 0 _ _ hbx
        clear hpre hbx hbl
        have HNIN : Hid (¬ T3 (N + 1) N (N + 2) w.heap.size) := by
          have := HNW.out
          intro h
          rcases h with h | h | h <;> omega
        by_cases hp : partM x = true
        · have HP := Lib.hid hp
          obtain ⟨⟨x0, x1⟩, x2⟩ : (x ≠ [] ∧ x ≠ [46]) ∧ x ≠ [46, 46] := by simpa [partM] using hp
          have hxl : (⟨x.toArray⟩ : ByteArray).toList = x := by rw [ByteArray.toList_eq]
          have y0 : x.isEmpty = false := by simpa using x0
          have y1 : (x == [46]) = false := by simpa using x1
          have y2 : (x == [46, 46]) = false := by simpa using x2
          clear hp
          gi_wp2
          refine ⟨KeepsOthers.refl _, fun _ _ => rfl, fun p h => ?_, HBXW.out, HBLW.out⟩
          rcases List.mem_append.1 h with h | h
          · exact HPRE.out p h
          · simp only [List.mem_singleton] at h
            rw [h]
            exact HP.out
        · have hx3 : x = [] ∨ x = [46] ∨ x = [46, 46] := by
            have : ¬ ((x ≠ [] ∧ x ≠ [46]) ∧ x ≠ [46, 46]) := fun h => hp (by simpa [partM] using h)
            by_cases e0 : x = []
            · exact .inl e0
            · by_cases e1 : x = [46]
              · exact .inr (.inl e1)
              · by_cases e2 : x = [46, 46]
                · exact .inr (.inr e2)
                · exact absurd ⟨⟨e0, e1⟩, e2⟩ this
          have hpf : partM x = false := by simpa using hp
          have HPF := Lib.hid hpf
          clear hpf hp
          have out : ∀ (y : List UInt8) (a : Act), partM y = false → ownPostK (KeepT (T3 (N + 1) N (N + 2))) (fun pre W => (∀ p ∈ pre, partM p = true) ∧ W.heap[w.heap.size]? = some (.cells #[.bool false] 4) ∧ Below w.heap.size w W)
              (fun c pre W => (c = .ret ∧ ∃ p ∈ pre, partM p = false) ∧ W.heap[w.heap.size]? = some (.cells #[.bool false] 4) ∧ Below w.heap.size w W) (pre ++ [y]) W .ret a (W.setCell ⟨w.heap.size, 0, none⟩ (.bool false)) := fun y _ hy =>
            ⟨KeepsOthers.setCell _ _ _, ⟨rfl, y, List.mem_append.2 (.inr (by simp)), hy⟩, heap_setCell_same W w.heap.size 0 _ _ _ HBXW.out, HBLW.out.setCell (p := ⟨w.heap.size, 0, none⟩) (Nat.le_refl _) _⟩
          have OUT := Lib.hid out
          clear out
          rcases hx3 with rfl | rfl | rfl
          · gi_wp2
            exact OUT.out _ _ HPF.out
          · gi_wp2
            exact OUT.out _ _ HPF.out
          · gi_wp2
            exact OUT.out _ _ HPF.out
      case done =>
        rintro D ys W hD rfl ⟨hall, hbx, hbl⟩ hK
        have HALL := Lib.hid hall
        have HBXW := Lib.hid hbx
        have HBLW := Lib.hid hbl
        have HKW := Lib.hid hK
        have c0 := cell_of_row W w.heap.size 0 _ _ _ hbx
        have f0 := frozen_of_row W w.heap.size 0 _ _ hbx
        have HC0 := Lib.hid c0
        clear hall hbx hbl hK
        gi_wp2
        have hK' := (KeepsOthers.setCell W ⟨w.heap.size, 0, none⟩ (.bool true)).same D _ HKW.out rfl
        refine ⟨by simp, .inl ⟨_, _, rfl, run_takeDeferred hK', ?_⟩⟩
        have hc5 := cell_kept (World.cell?_setCell_same' W ⟨w.heap.size, 0, none⟩ (.bool true) (by rw [HC0.out]; rfl)) (grownBy_putObj' _ D (.deferred none)) (fun r e => by cases e; exact ⟨_, hK', rfl⟩)
        refine ⟨.bool true, by simp [results, Tryd.f22, go_sem, hc5], ?_, (HBLW.out.setCell (p := ⟨w.heap.size, 0, none⟩) (Nat.le_refl _) _).trans (belowK_b (w := w) (Nat.le_refl _) _ D _ _ (by have := HZ4.out; have := HNW.out; omega) hK' rfl rfl)⟩
        rw [HRT.out, List.all_eq_true.2 HALL.out]
      case stop =>
        rintro D c pre W hD hpre ⟨⟨rfl, p, hin, hpb⟩, hbx, hbl⟩ hK
        have HPRE := Lib.hid hpre
        have HPB := Lib.hid hpb
        have HBLW := Lib.hid hbl
        have HKW := Lib.hid hK
        have HC0 := Lib.hid (cell_of_row W w.heap.size 0 _ _ _ hbx)
        clear hpre hpb hbx hbl hK
        gi_wp2
        refine ⟨by simp, .inl ⟨_, _, rfl, run_takeDeferred HKW.out, ?_⟩⟩
        have hc5 := cell_kept HC0.out (grownBy_putObj' _ D (.deferred none)) (fun r e => by cases e; exact ⟨_, HKW.out, rfl⟩)
        refine ⟨.bool false, by simp [results, Tryd.f22, go_sem, hc5], ?_, HBLW.out.trans (belowK_b (w := w) (Nat.le_refl _) W D _ _ (by have := HZ4.out; have := HNW.out; omega) HKW.out rfl rfl)⟩
        have : (partsS t).all partM = false := by
          rw [List.all_eq_false]
          exact ⟨p, HPRE.out.subset hin, by rw [HPB.out]; decide⟩
        rw [HRT.out, this]
end Go.Proofs.YtfnkbpcimbldbaaDoor
