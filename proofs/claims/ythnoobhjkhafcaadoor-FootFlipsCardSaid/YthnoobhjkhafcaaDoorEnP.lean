/- Layer 19: a directory's bytes. -/
import Derived.Test.YthnoobhjkhafcaaDoorEnA
import Derived.Test.YthnoobhjkhafcaaDoorKField
namespace Go.Proofs.YthnoobhjkhafcaaDoor
open Go.RowKit CrcP FieldP

/-- In how many bytes each number of a member stands. -/
def widE : Nat → Nat
  | 0 => 1
  | 1 => 1
  | _ => 4
/-- The table of widths lies in memory. -/
def WidE (w : World) : Prop := 0 < w.heap.size ∧ ∀ k, k < 6 → w.cell? ⟨0, k, none⟩ = some (.int .i64 (widE k : Nat))
theorem WidE.below {w w' : World} {B : Nat} (h : WidE w) (hb : Below B w w') (hB : 0 < B) (hs : 0 < w'.heap.size) : WidE w' := ⟨hs, fun k hk => (hb.cell (p := ⟨0, k, none⟩) hB).trans (h.2 k hk)⟩
/-- The first k numbers of a member, and all of its bytes. -/
def mbF (m : LM) : Nat → List UInt8
  | 0 => []
  | 1 => putN m.me.toNat 1
  | 2 => putN m.me.toNat 1 ++ putN m.nm.size 1
  | 3 => putN m.me.toNat 1 ++ putN m.nm.size 1 ++ putN m.at_.toNat 4
  | 4 => putN m.me.toNat 1 ++ putN m.nm.size 1 ++ putN m.at_.toNat 4 ++ putN m.sz.toNat 4
  | 5 => putN m.me.toNat 1 ++ putN m.nm.size 1 ++ putN m.at_.toNat 4 ++ putN m.sz.toNat 4 ++ putN m.ar.toNat 4
  | _ => putN m.me.toNat 1 ++ putN m.nm.size 1 ++ putN m.at_.toNat 4 ++ putN m.sz.toNat 4 ++ putN m.ar.toNat 4 ++ putN m.su.toNat 4
def mbLen : Nat → Nat
  | 0 => 0
  | 1 => 1
  | 2 => 2
  | 3 => 6
  | 4 => 10
  | 5 => 14
  | _ => 18
def mbB (m : LM) : List UInt8 := mbF m 6 ++ m.nm.data.toList
def dirB (ms : List LM) : List UInt8 := (ms.map mbB).flatten
theorem mbB_length (m : LM) : (mbB m).length = 18 + m.nm.size := by
  unfold mbB
  simp only [mbF, List.length_append, putN_length, Array.length_toList]
  rfl
theorem dirB_nil : dirB [] = [] := rfl
theorem dirB_take {ms : List LM} {k : Nat} {m : LM} (h : ms[k]? = some m) : dirB (ms.take (k + 1)) = dirB (ms.take k) ++ mbB m := by
  unfold dirB
  rw [List.take_add_one, h]
  simp
/-- How many bytes members take. -/
def rowsM (ms : List LM) : Nat := (ms.map fun m => 18 + m.nm.size).sum
theorem dirB_length (ms : List LM) : (dirB ms).length = rowsM ms := by
  unfold dirB rowsM
  rw [List.length_flatten, List.map_map]
  congr 1
  exact List.map_congr_left (fun m _ => mbB_length m)
theorem rowsM_take {ms : List LM} {k : Nat} {m : LM} (h : ms[k]? = some m) : rowsM (ms.take (k + 1)) = rowsM (ms.take k) + (18 + m.nm.size) := by
  unfold rowsM
  rw [List.take_add_one, h]
  simp
theorem rowsM_le {ms : List LM} {n : Nat} (h : ∀ m ∈ ms, m.nm.size ≤ n) : rowsM ms ≤ ms.length * (18 + n) := by
  induction ms with
  | nil => exact Nat.zero_le _
  | cons m l ih =>
    have := ih (fun m hm => h m (by simp [hm]))
    have h1 := h m (by simp)
    unfold rowsM at this ⊢
    rw [List.map_cons, List.sum_cons, List.length_cons, Nat.succ_mul]
    omega
theorem rowsM_cut (ms : List LM) (k : Nat) : rowsM (ms.take k) ≤ rowsM ms := by
  have h : rowsM ms = rowsM (ms.take k) + rowsM (ms.drop k) := by
    unfold rowsM
    rw [← List.sum_append, ← List.map_append, List.take_append_drop]
  omega
theorem memB_nums {m : LM} (h : m.B = true) : 1 ≤ m.nm.size ∧ m.nm.size ≤ 64 ∧ 0 ≤ m.me ∧ m.me ≤ 2 ∧ 1024 ≤ m.at_ ∧ m.at_ ≤ 1073741824 ∧ 0 ≤ m.ar ∧ m.ar ≤ 262144 ∧ 0 ≤ m.sz ∧ m.sz ≤ 65536 ∧ m.fr = m.at_ + (22 + (m.nm.size : Int)) := by
  unfold LM.B memB at h
  simp only [Bool.and_eq_true, beq_iff_eq] at h
  obtain ⟨⟨⟨⟨⟨h1, h2⟩, h3⟩, h4⟩, h5⟩, h6⟩ := h
  have a := rightB_size h1
  have b := inB_yes h2
  have c := inB_yes h3
  have d := inB_yes h5
  have e := inB_yes h6
  exact ⟨a.1, a.2, b.1, b.2, c.1, c.2, d.1, d.2, e.1, e.2, h4⟩
theorem goodTo_at {ms : List LM} {n k : Nat} {m : LM} (h : goodTo ms n) (hk : k < n) (hm : ms[k]? = some m) : m.B = true := by
  obtain ⟨m', h1, h2, _⟩ := h k hk
  rw [hm] at h1; injection h1 with h1; subst h1; exact h2
theorem dir_small {ms : List LM} (h : allB ms = true) : ms.length ≤ 200 ∧ ∀ m ∈ ms, m.nm.size ≤ 64 := by
  obtain ⟨h1, h2⟩ := allB_true.1 h
  refine ⟨h1, fun m hm => ?_⟩
  obtain ⟨k, hk⟩ := List.mem_iff_getElem?.1 hm
  exact (memB_nums (goodTo_at h2 (List.getElem?_eq_some_iff.1 hk).1 hk)).2.1

set_option maxHeartbeats 400000 in
theorem enPut_no (A : Option Addr) (l c : Nat) (ms : List LM) (B : Nat) (w : World) (hl : ms.length = l) (hok : ∀ m ∈ ms, m.Ok) (hb : Cells w B A (ms.map LM.cells).flatten) (hB : B ≤ w.heap.size) (ha : allB ms = false) :
    Calls Tryd.prog 10 #[.slice A l c] w fun e w' => e = .returned (.tuple #[.slice none 0 0, .int .i64 1]) ∧ Below w.heap.size w w' := by
  have HA := Lib.hid (enAll_any A l c ms B w hl hok hb hB)
  rw [ha] at HA
  clear hb hok hl ha
  go_enter Tryd.func10, Tryd.ntmps10
  go_wp2_with (go_at_call 12; refine HA.out.mono ?_; rintro e w1 ⟨rfl, hb⟩; have HB1 := Lib.hid hb; clear hb)
  go_ret2
  exact ⟨rfl, HB1.out⟩

set_option maxRecDepth 100000 in
set_option maxHeartbeats 8000000 in
theorem enPut_yes (A : Option Addr) (l c : Nat) (ms : List LM) (B : Nat) (w : World) (hW : WidE w) (hl : ms.length = l) (hok : ∀ m ∈ ms, m.Ok) (hb : Cells w B A (ms.map LM.cells).flatten) (hB : B ≤ w.heap.size) (ha : allB ms = true) :
    Calls Tryd.prog 10 #[.slice A l c] w fun e w' => ∃ A' c', e = .returned (.tuple #[.slice A' (rowsM ms) c', .int .i64 0]) ∧ OwnY w' w.heap.size (.slice A' (rowsM ms) c') (rowsM ms) (dirB ms) ∧ Below w.heap.size w w' := by
  have HA := Lib.hid (enAll_any A l c ms B w hl hok hb hB)
  rw [ha] at HA
  have HC := Lib.hid hb
  have HL := Lib.hid hl
  have HFL := Lib.hid (mems_len ms)
  have HOK := Lib.hid hok
  have HB := Lib.hid hB
  have HW := Lib.hid hW
  have hw0 := hW.1
  obtain ⟨hs1, hs2⟩ := dir_small ha
  have hl200 : l ≤ 200 := by omega
  have HGD := Lib.hid (allB_true.1 ha).2
  have hrow := rowsM_le hs2
  have hrows : rowsM ms ≤ 16400 := by omega
  have HCUT := Lib.hid (rowsM_cut ms)
  have HDL := Lib.hid (dirB_length ms)
  clear hb hok hB hl ha hW hs1 hs2 hrow
  go_enter Tryd.func10, Tryd.ntmps10
  go_wp2_with (go_at_call 12; refine HA.out.mono ?_; rintro e w1 ⟨rfl, hb⟩; have HB1 := Lib.hid hb; clear hb)
  go_loopg [4, 14] l (fun gk vb i wr => ∃ k : Nat, k + gk = l ∧ i = .int .i64 k ∧ OwnY wr w.heap.size vb (rowsM (ms.take k)) (dirB (ms.take k)) ∧ Below w.heap.size w wr)
  case atStart => exact ⟨0, by omega, rfl, OwnT.nil _ _ _, HB1.out⟩
  case round =>
    obtain ⟨k, hk, rfl, hown, hbel⟩ := hrel
    have HOWN := Lib.hid hown
    have HBEL := Lib.hid hbel
    clear hown hbel
    obtain ⟨Ak, ck, rfl⟩ := HOWN.out.form
    by_cases h : k < l
    · obtain ⟨m, hx⟩ : ∃ x, ms[k]? = some x := ⟨_, List.getElem?_eq_getElem (by have := HL.out; omega)⟩
      obtain ⟨b, o, rfl, hbB, hc⟩ := HC.out (by rw [HFL.out, HL.out]; omega)
      have hBw := HB.out
      have HM := Lib.hid (mem_at hbB hc (hBw_below HBEL.out hBw) hx)
      obtain ⟨c0, c1, c2, c3, c4, c5, c6⟩ := HM.out
      have HX := Lib.hid hx
      obtain ⟨hmx1, hmx2, hme0, hme1, hat0, hat1, har0, har1, hsz0, hsz1, hfr⟩ := memB_nums (goodTo_at HGD.out (by have := HL.out; omega) hx)
      clear hfr
      obtain ⟨_, _, _, hsu0, hsu1⟩ := HOK.out m (List.mem_of_getElem? hx)
      have HD1 := Lib.hid (dirB_take hx)
      have HR1 := Lib.hid (rowsM_take hx)
      have hcut := HCUT.out (k + 1)
      rw [HR1.out] at hcut
      obtain ⟨W0, hW0⟩ : ∃ W0, wr.alloc (.cells #[.string m.nm, .int .i64 m.at_, .int .i64 m.fr, .int .i64 m.ar, .int .i64 m.sz, .int .u32 m.su, .int .i64 m.me] 34) = W0 := ⟨_, rfl⟩
      obtain ⟨g, hg⟩ : ∃ g, wr.heap.size = g := ⟨_, rfl⟩
      have HX0 : Hid (Box W0 g #[.string m.nm, .int .i64 m.at_, .int .i64 m.fr, .int .i64 m.ar, .int .i64 m.sz, .int .u32 m.su, .int .i64 m.me] 34) := by rw [← hW0, ← hg]; exact heap_alloc_new wr _
      have HB0 : Hid (Below w.heap.size w W0) := by rw [← hW0]; exact HBEL.out.alloc HBEL.out.size _
      have HO0 : Hid (OwnY W0 w.heap.size (.slice Ak (rowsM (ms.take k)) ck) (rowsM (ms.take k)) (dirB (ms.take k))) := by rw [← hW0]; exact OwnT.alloc HOWN.out _
      have HNE0 : Hid (∀ q, ownS (.slice Ak (rowsM (ms.take k)) ck) q → q ≠ g) := fun q hq => by have := (HOWN.out.lt q hq).2; omega
      have hgw : w.heap.size ≤ g := by rw [← hg]; exact HBEL.out.size
      clear hc hx HM HOWN HBEL
      obtain ⟨n, hn⟩ : ∃ n, rowsM (ms.take k) = n := ⟨_, rfl⟩
      obtain ⟨D, hD⟩ : ∃ D, dirB (ms.take k) = D := ⟨_, rfl⟩
      rw [hn] at HO0 HNE0 HR1 hcut
      rw [hn]
      rw [hD] at HO0 HD1
      have x0 : W0.cell? ⟨g, 0, none⟩ = _ := HX0.out.cell 0
      have x1 : W0.cell? ⟨g, 1, none⟩ = _ := HX0.out.cell 1
      have x3 : W0.cell? ⟨g, 3, none⟩ = _ := HX0.out.cell 3
      have x4 : W0.cell? ⟨g, 4, none⟩ = _ := HX0.out.cell 4
      have x5 : W0.cell? ⟨g, 5, none⟩ = _ := HX0.out.cell 5
      have x6 : W0.cell? ⟨g, 6, none⟩ = _ := HX0.out.cell 6
      clear hn hD
      go_wp2_with fail
      clear c0 c1 c2 c3 c4 c5 c6 x0 x1 x3 x4 x5 x6 hg hW0
      go_loopw [4, 7, 8, 37] (fun vb _ _ i wr => ∃ j : Nat, j ≤ 6 ∧ i = .int .i64 j ∧ OwnY wr w.heap.size vb (n + mbLen j) (D ++ mbF m j) ∧ Below w.heap.size w wr ∧ Box wr g #[.string m.nm, .int .i64 m.at_, .int .i64 m.fr, .int .i64 m.ar, .int .i64 m.sz, .int .u32 m.su, .int .i64 m.me] 34 ∧ ∀ q, ownS vb q → q ≠ g) (fun _ _ _ i _ => 6 - (intOf i).toNat)
      case atStart => exact ⟨0, by omega, rfl, by simpa [mbF, mbLen] using HO0.out, HB0.out, HX0.out, HNE0.out⟩
      case round =>
        obtain ⟨j, hj, rfl, hown, hbel, hbox, hne⟩ := hrel
        have HOWN := Lib.hid hown
        have HBEL := Lib.hid hbel
        have HBOX := Lib.hid hbox
        have HNE := Lib.hid hne
        clear hown hbel hbox hne
        obtain ⟨Aj, cj, rfl⟩ := HOWN.out.form
        by_cases hj6 : j < 6
        · have hj7 : j = 0 ∨ j = 1 ∨ j = 2 ∨ j = 3 ∨ j = 4 ∨ j = 5 := by omega
          rcases hj7 with rfl | rfl | rfl | rfl | rfl | rfl
          · have hix : ∀ w, (Instr.index 50 (.agg #[.int .u32 m.me, .int .u32 (m.nm.size : Int), .int .u32 m.at_, .int .u32 m.sz, .int .u32 m.ar, .int .u32 m.su]) (.int .i64 0)).run Tryd.prog w = .ok (.int .u32 m.me) w := fun _ => by kernel_rfl
            have hwd := (HBEL.out.cell (p := ⟨0, 0, none⟩) hw0).trans (HW.out.2 0 (by omega))
            rw [show ((widE 0 : Nat) : Int) = 1 from rfl] at hwd
            have HST := Lib.hid (put_any (.slice Aj (n + 0) cj) (n + 0) _ m.me 1 w.heap.size _ (by omega) (by omega) (by omega) (by omega) (by omega) HOWN.out HBEL.out.size)
            rw [show cnt 1 = 1 from rfl, Nat.add_assoc n] at HST
            rw [show mbLen 0 = 0 from rfl]
            go_wp2_with (go_at_call 27; refine HST.out.mono ?_; rintro e w2 ⟨A2, c2, rfl, happ⟩; have HO2 : Hid (OwnY _ _ _ (n + 1) _) := happ.own; have HB2 := Lib.hid (happ.below HBEL.out HBEL.out.size (fun k hk => (HOWN.out.lt k hk).1)); have HX2 := Lib.hid (Box.mod HBOX.out happ.mod (fun hq => HNE.out _ hq rfl)); have HN2 : Hid (∀ q, ownS (.slice A2 (n + 1) c2) q → q ≠ g) := (fun q hq => (happ.place q hq).elim (HNE.out q) (fun h => by have := HBOX.out.lt; omega)); clear happ hwd)
            exact ⟨⟨1, by omega, rfl, by simpa [mbF, mbLen] using HO2.out, HB2.out, HX2.out, HN2.out⟩, by simp [intOf]⟩
          · have hix : ∀ w, (Instr.index 50 (.agg #[.int .u32 m.me, .int .u32 (m.nm.size : Int), .int .u32 m.at_, .int .u32 m.sz, .int .u32 m.ar, .int .u32 m.su]) (.int .i64 1)).run Tryd.prog w = .ok (.int .u32 (m.nm.size : Int)) w := fun _ => by kernel_rfl
            have hwd := (HBEL.out.cell (p := ⟨0, 1, none⟩) hw0).trans (HW.out.2 1 (by omega))
            rw [show ((widE 1 : Nat) : Int) = 1 from rfl] at hwd
            have HST := Lib.hid (put_any (.slice Aj (n + 1) cj) (n + 1) _ (m.nm.size : Int) 1 w.heap.size _ (by omega) (by omega) (by omega) (by omega) (by omega) HOWN.out HBEL.out.size)
            rw [show cnt 1 = 1 from rfl, Nat.add_assoc n] at HST
            rw [show mbLen 1 = 1 from rfl]
            go_wp2_with (go_at_call 27; refine HST.out.mono ?_; rintro e w2 ⟨A2, c2, rfl, happ⟩; have HO2 : Hid (OwnY _ _ _ (n + 2) _) := happ.own; have HB2 := Lib.hid (happ.below HBEL.out HBEL.out.size (fun k hk => (HOWN.out.lt k hk).1)); have HX2 := Lib.hid (Box.mod HBOX.out happ.mod (fun hq => HNE.out _ hq rfl)); have HN2 : Hid (∀ q, ownS (.slice A2 (n + 2) c2) q → q ≠ g) := (fun q hq => (happ.place q hq).elim (HNE.out q) (fun h => by have := HBOX.out.lt; omega)); clear happ hwd)
            exact ⟨⟨2, by omega, rfl, by rw [List.append_assoc] at HO2; exact HO2.out, HB2.out, HX2.out, HN2.out⟩, by simp [intOf]⟩
          · have hix : ∀ w, (Instr.index 50 (.agg #[.int .u32 m.me, .int .u32 (m.nm.size : Int), .int .u32 m.at_, .int .u32 m.sz, .int .u32 m.ar, .int .u32 m.su]) (.int .i64 2)).run Tryd.prog w = .ok (.int .u32 m.at_) w := fun _ => by kernel_rfl
            have hwd := (HBEL.out.cell (p := ⟨0, 2, none⟩) hw0).trans (HW.out.2 2 (by omega))
            rw [show ((widE 2 : Nat) : Int) = 4 from rfl] at hwd
            have HST := Lib.hid (put_any (.slice Aj (n + 2) cj) (n + 2) _ m.at_ 4 w.heap.size _ (by omega) (by omega) (by omega) (by omega) (by omega) HOWN.out HBEL.out.size)
            rw [show cnt 4 = 4 from rfl, Nat.add_assoc n] at HST
            rw [show mbLen 2 = 2 from rfl]
            go_wp2_with (go_at_call 27; refine HST.out.mono ?_; rintro e w2 ⟨A2, c2, rfl, happ⟩; have HO2 : Hid (OwnY _ _ _ (n + 6) _) := happ.own; have HB2 := Lib.hid (happ.below HBEL.out HBEL.out.size (fun k hk => (HOWN.out.lt k hk).1)); have HX2 := Lib.hid (Box.mod HBOX.out happ.mod (fun hq => HNE.out _ hq rfl)); have HN2 : Hid (∀ q, ownS (.slice A2 (n + 6) c2) q → q ≠ g) := (fun q hq => (happ.place q hq).elim (HNE.out q) (fun h => by have := HBOX.out.lt; omega)); clear happ hwd)
            exact ⟨⟨3, by omega, rfl, by rw [List.append_assoc] at HO2; exact HO2.out, HB2.out, HX2.out, HN2.out⟩, by simp [intOf]⟩
          · have hix : ∀ w, (Instr.index 50 (.agg #[.int .u32 m.me, .int .u32 (m.nm.size : Int), .int .u32 m.at_, .int .u32 m.sz, .int .u32 m.ar, .int .u32 m.su]) (.int .i64 3)).run Tryd.prog w = .ok (.int .u32 m.sz) w := fun _ => by kernel_rfl
            have hwd := (HBEL.out.cell (p := ⟨0, 3, none⟩) hw0).trans (HW.out.2 3 (by omega))
            rw [show ((widE 3 : Nat) : Int) = 4 from rfl] at hwd
            have HST := Lib.hid (put_any (.slice Aj (n + 6) cj) (n + 6) _ m.sz 4 w.heap.size _ (by omega) (by omega) (by omega) (by omega) (by omega) HOWN.out HBEL.out.size)
            rw [show cnt 4 = 4 from rfl, Nat.add_assoc n] at HST
            rw [show mbLen 3 = 6 from rfl]
            go_wp2_with (go_at_call 27; refine HST.out.mono ?_; rintro e w2 ⟨A2, c2, rfl, happ⟩; have HO2 : Hid (OwnY _ _ _ (n + 10) _) := happ.own; have HB2 := Lib.hid (happ.below HBEL.out HBEL.out.size (fun k hk => (HOWN.out.lt k hk).1)); have HX2 := Lib.hid (Box.mod HBOX.out happ.mod (fun hq => HNE.out _ hq rfl)); have HN2 : Hid (∀ q, ownS (.slice A2 (n + 10) c2) q → q ≠ g) := (fun q hq => (happ.place q hq).elim (HNE.out q) (fun h => by have := HBOX.out.lt; omega)); clear happ hwd)
            exact ⟨⟨4, by omega, rfl, by rw [List.append_assoc] at HO2; exact HO2.out, HB2.out, HX2.out, HN2.out⟩, by simp [intOf]⟩
          · have hix : ∀ w, (Instr.index 50 (.agg #[.int .u32 m.me, .int .u32 (m.nm.size : Int), .int .u32 m.at_, .int .u32 m.sz, .int .u32 m.ar, .int .u32 m.su]) (.int .i64 4)).run Tryd.prog w = .ok (.int .u32 m.ar) w := fun _ => by kernel_rfl
            have hwd := (HBEL.out.cell (p := ⟨0, 4, none⟩) hw0).trans (HW.out.2 4 (by omega))
            rw [show ((widE 4 : Nat) : Int) = 4 from rfl] at hwd
            have HST := Lib.hid (put_any (.slice Aj (n + 10) cj) (n + 10) _ m.ar 4 w.heap.size _ (by omega) (by omega) (by omega) (by omega) (by omega) HOWN.out HBEL.out.size)
            rw [show cnt 4 = 4 from rfl, Nat.add_assoc n] at HST
            rw [show mbLen 4 = 10 from rfl]
            go_wp2_with (go_at_call 27; refine HST.out.mono ?_; rintro e w2 ⟨A2, c2, rfl, happ⟩; have HO2 : Hid (OwnY _ _ _ (n + 14) _) := happ.own; have HB2 := Lib.hid (happ.below HBEL.out HBEL.out.size (fun k hk => (HOWN.out.lt k hk).1)); have HX2 := Lib.hid (Box.mod HBOX.out happ.mod (fun hq => HNE.out _ hq rfl)); have HN2 : Hid (∀ q, ownS (.slice A2 (n + 14) c2) q → q ≠ g) := (fun q hq => (happ.place q hq).elim (HNE.out q) (fun h => by have := HBOX.out.lt; omega)); clear happ hwd)
            exact ⟨⟨5, by omega, rfl, by rw [List.append_assoc] at HO2; exact HO2.out, HB2.out, HX2.out, HN2.out⟩, by simp [intOf]⟩
          · have hix : ∀ w, (Instr.index 50 (.agg #[.int .u32 m.me, .int .u32 (m.nm.size : Int), .int .u32 m.at_, .int .u32 m.sz, .int .u32 m.ar, .int .u32 m.su]) (.int .i64 5)).run Tryd.prog w = .ok (.int .u32 m.su) w := fun _ => by kernel_rfl
            have hwd := (HBEL.out.cell (p := ⟨0, 5, none⟩) hw0).trans (HW.out.2 5 (by omega))
            rw [show ((widE 5 : Nat) : Int) = 4 from rfl] at hwd
            have HST := Lib.hid (put_any (.slice Aj (n + 14) cj) (n + 14) _ m.su 4 w.heap.size _ (by omega) (by omega) (by omega) (by omega) (by omega) HOWN.out HBEL.out.size)
            rw [show cnt 4 = 4 from rfl, Nat.add_assoc n] at HST
            rw [show mbLen 5 = 14 from rfl]
            go_wp2_with (go_at_call 27; refine HST.out.mono ?_; rintro e w2 ⟨A2, c2, rfl, happ⟩; have HO2 : Hid (OwnY _ _ _ (n + 18) _) := happ.own; have HB2 := Lib.hid (happ.below HBEL.out HBEL.out.size (fun k hk => (HOWN.out.lt k hk).1)); have HX2 := Lib.hid (Box.mod HBOX.out happ.mod (fun hq => HNE.out _ hq rfl)); have HN2 : Hid (∀ q, ownS (.slice A2 (n + 18) c2) q → q ≠ g) := (fun q hq => (happ.place q hq).elim (HNE.out q) (fun h => by have := HBOX.out.lt; omega)); clear happ hwd)
            exact ⟨⟨6, by omega, rfl, by rw [List.append_assoc] at HO2; exact HO2.out, HB2.out, HX2.out, HN2.out⟩, by simp [intOf]⟩
        · obtain rfl : j = 6 := by omega
          have h1 : _ = some (Value.string m.nm) := HBOX.out.cell 0
          rw [show mbLen 6 = 18 from rfl] at HOWN ⊢
          go_wp2_with (at_builtin; refine wpList_appT_string _ byteElem Tryd.underlying9 rfl (.tmp 48) (.tmp 50) rfl w.heap.size (.slice Aj (n + 18) cj) (n + 18) (byteCells (D ++ mbF m 6)) rfl HOWN.out m.nm rfl (by unfold maxLen; omega) (by omega) HBEL.out.size ?_; intro A4 c4 w4 hA; have HA4 := Lib.hid hA; clear hA)
          have HO4 : Hid (OwnY w4 w.heap.size (.slice A4 (n + 18 + m.nm.size) c4) (n + 18 + m.nm.size) (D ++ mbF m 6 ++ m.nm.data.toList)) := by have := HA4.out.own; rwa [← byteCells_append] at this
          have HB4 := Lib.hid (HA4.out.below HBEL.out HBEL.out.size (fun k hk => (HOWN.out.lt k hk).1))
          go_roundg (gk - 1)
          case measure => omega
          case rel =>
            refine ⟨k + 1, by omega, by go_num, ?_, HB4.out⟩
            rw [HR1.out, HD1.out, ← Nat.add_assoc n 18]
            have := HO4.out
            rw [List.append_assoc] at this
            exact this
    · obtain rfl : k = l := by omega
      have ht : ms.take k = ms := List.take_of_length_le (by have := HL.out; omega)
      rw [ht] at HOWN
      rw [ht]
      clear ht
      go_wp2
      go_ret2
      exact ⟨Ak, ck, rfl, HOWN.out, HBEL.out⟩
end Go.Proofs.YthnoobhjkhafcaaDoor
