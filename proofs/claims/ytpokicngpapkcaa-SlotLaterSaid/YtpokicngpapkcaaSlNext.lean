/- Layer 21: the slots behind another one. -/
import Derived.Test.YtpokicngpapkcaaSlPuts
namespace Go.Proofs.Ytpokicngpapkcaa
open Go.RowKit CrcP FieldP
attribute [local go_sem ↓] Go.wp_at_zero Go.wp_at_succ

/-- May the next slot be? -/
def nextB (q e d : Int) (c : Bool) (e2 d2 : Int) (c2 : Bool) : Bool := slB q e d c && slB (q + 1) e2 d2 c2
def nextV (q e d : Int) (c : Bool) (e2 d2 : Int) (c2 : Bool) : Value := .agg (if nextB q e d c e2 d2 c2 = true then slC (q + 1) e2 d2 c2 else #[.int .i64 0, .int .i64 0, .int .i64 0, .bool false])
theorem slB_le {q e d : Int} {c : Bool} (h : slB q e d c = true) : 0 ≤ q ∧ q ≤ 2147483647 := by
  have hp : slP q e d c := of_decide_eq_true h
  exact ⟨hp.1, hp.2.1⟩
set_option maxRecDepth 100000 in
set_option maxHeartbeats 1000000 in
theorem behind_any (q e d : Int) (c : Bool) (n0 e2 d2 : Int) (c2 : Bool) (w : World) :
    Calls Try.prog 26 #[.agg #[.int .i64 q, .int .i64 e, .int .i64 d, .bool c], .agg #[.int .i64 n0, .int .i64 e2, .int .i64 d2, .bool c2]] w fun x w' => x = .returned (.tuple #[nextV q e d c e2 d2 c2, .bool (nextB q e d c e2 d2 c2)]) ∧ Below w.heap.size w w' := by
  have HR1 := Lib.hid (fun W => slRight_any q e d c W)
  have HR2 := Lib.hid (fun W => slRight_any (q + 1) e2 d2 c2 W)
  have HN : Hid (nextB q e d c e2 d2 c2 = (slB q e d c && slB (q + 1) e2 d2 c2)) := rfl
  have HV : Hid (nextV q e d c e2 d2 c2 = .agg (if nextB q e d c e2 d2 c2 = true then slC (q + 1) e2 d2 c2 else #[.int .i64 0, .int .i64 0, .int .i64 0, .bool false])) := rfl
  unfold slC at HR1 HR2
  cases h1 : slB q e d c with
  | false =>
    rw [h1] at HR1 HN
    have HN2 : Hid (nextB q e d c e2 d2 c2 = false) := HN.out
    clear h1
    go_enter Try.func26, Try.ntmps26
    go_wp2_with (go_at_call 10; refine (HR1.out _).mono ?_; rintro x w' ⟨rfl, rfl⟩)
    refine bodyPost_ret (v := .tuple #[.agg #[.int .i64 0, .int .i64 0, .int .i64 0, .bool false], .bool false]) (by simp [results, Try.results26, go_sem]) rfl ⟨by rw [HV.out, HN2.out]; rfl, ?_⟩
    repeat (first | exact Below.refl _ _ | refine Below.setCell ?_ (by simp <;> omega) _ | refine Below.alloc ?_ (by simp <;> omega) _)
  | true =>
    have hq := slB_le h1
    have hw : IntKind.i64.wrap (q + 1) = q + 1 := IntWalk.i64_in _ (by omega)
    rw [h1] at HR1 HN
    clear h1 hq
    cases h2 : slB (q + 1) e2 d2 c2 with
    | false =>
      rw [h2] at HR2 HN
      have HN2 : Hid (nextB q e d c e2 d2 c2 = false) := HN.out
      clear h2
      go_enter Try.func26, Try.ntmps26
      go_wp2_with (first | (go_at_call 10; refine (HR1.out _).mono ?_; clear HR1; rintro x w' ⟨rfl, rfl⟩) | (go_at_call 10; refine (HR2.out _).mono ?_; rintro x w' ⟨rfl, rfl⟩))
      refine bodyPost_ret (v := .tuple #[.agg #[.int .i64 0, .int .i64 0, .int .i64 0, .bool false], .bool false]) (by simp [results, Try.results26, go_sem]) rfl ⟨by rw [HV.out, HN2.out]; rfl, ?_⟩
      repeat (first | exact Below.refl _ _ | refine Below.setCell ?_ (by simp <;> omega) _ | refine Below.alloc ?_ (by simp <;> omega) _)
    | true =>
      rw [h2] at HR2 HN
      have HN2 : Hid (nextB q e d c e2 d2 c2 = true) := HN.out
      clear h2
      go_enter Try.func26, Try.ntmps26
      go_wp2_with (first | (go_at_call 10; refine (HR1.out _).mono ?_; clear HR1; rintro x w' ⟨rfl, rfl⟩) | (go_at_call 10; refine (HR2.out _).mono ?_; rintro x w' ⟨rfl, rfl⟩))
      refine bodyPost_ret (v := .tuple #[.agg #[.int .i64 (q + 1), .int .i64 e2, .int .i64 d2, .bool c2], .bool true]) (by simp [results, Try.results26, go_sem]) rfl ⟨by rw [HV.out, HN2.out]; rfl, ?_⟩
      repeat (first | exact Below.refl _ _ | refine Below.setCell ?_ (by simp <;> omega) _ | refine Below.alloc ?_ (by simp <;> omega) _)
theorem next_form (q e d : Int) (c : Bool) (e2 d2 : Int) (c2 : Bool) : ∃ (a b f : Int) (o : Bool), nextV q e d c e2 d2 c2 = .agg #[.int .i64 a, .int .i64 b, .int .i64 f, .bool o] := by
  unfold nextV
  split
  · exact ⟨_, _, _, _, rfl⟩
  · exact ⟨_, _, _, _, rfl⟩
set_option maxRecDepth 100000 in
set_option maxHeartbeats 1000000 in
theorem dirty_any (q e d : Int) (c : Bool) (w : World) :
    Calls Try.prog 14 #[.agg #[.int .i64 q, .int .i64 e, .int .i64 d, .bool c]] w fun x w' => x = .returned (.tuple #[nextV q e d c e 0 false, .bool (nextB q e d c e 0 false)]) ∧ Below w.heap.size w w' := by
  have HBH := Lib.hid (fun W => behind_any q e d c 0 e 0 false W)
  obtain ⟨a0, a1, a2, a3, hf⟩ := next_form q e d c e 0 false
  rw [hf] at HBH ⊢
  clear hf
  generalize nextB q e d c e 0 false = o at *
  obtain ⟨w0, hw0⟩ : ∃ w0, (w.alloc (.cells #[.int .i64 q, .int .i64 e, .int .i64 d, .bool c] 23)).alloc (.cells #[.int .i64 0, .int .i64 0, .int .i64 0, .bool false] 23) = w0 := ⟨_, rfl⟩
  have HX : Hid (Box w0 (w.heap.size + 1) #[.int .i64 0, .int .i64 0, .int .i64 0, .bool false] 23) := by rw [← hw0]; have := heap_alloc_new (w.alloc (.cells #[.int .i64 q, .int .i64 e, .int .i64 d, .bool c] 23)) (.cells #[.int .i64 0, .int .i64 0, .int .i64 0, .bool false] 23); rw [show (w.alloc (.cells #[.int .i64 q, .int .i64 e, .int .i64 d, .bool c] 23)).heap.size = w.heap.size + 1 by simp] at this; exact this
  have HS : Hid (Box w0 w.heap.size #[.int .i64 q, .int .i64 e, .int .i64 d, .bool c] 23) := by rw [← hw0]; exact (show Box (w.alloc (.cells #[.int .i64 q, .int .i64 e, .int .i64 d, .bool c] 23)) w.heap.size #[.int .i64 q, .int .i64 e, .int .i64 d, .bool c] 23 from heap_alloc_new w _).alloc _
  have HB : Hid (Below w.heap.size w w0) := by rw [← hw0]; exact ((Below.refl w.heap.size w).alloc (Nat.le_refl _) _).alloc (by simp) _
  have s0 : w0.cell? ⟨w.heap.size, 0, none⟩ = some (.int .i64 q) := HS.out.cell 0
  have s1 : w0.cell? ⟨w.heap.size, 1, none⟩ = some (.int .i64 e) := HS.out.cell 1
  have s2 : w0.cell? ⟨w.heap.size, 2, none⟩ = some (.int .i64 d) := HS.out.cell 2
  have s3 : w0.cell? ⟨w.heap.size, 3, none⟩ = some (.bool c) := HS.out.cell 3
  go_enter Try.func14, Try.ntmps14
  go_wp2_with fail
  refine (HBH.out _).mono ?_
  rintro x w2 ⟨rfl, hb⟩
  have HX2 := Lib.hid (HX.out.below hb HX.out.lt)
  have HB2 := Lib.hid (HB.out.trans (hb.mono HB.out.size))
  clear hb hw0 s0 s1 s2 s3
  have x0 : w2.cell? ⟨w.heap.size + 1, 0, none⟩ = some (.int .i64 0) := HX2.out.cell 0
  have x1 : w2.cell? ⟨w.heap.size + 1, 1, none⟩ = some (.int .i64 0) := HX2.out.cell 1
  have x2 : w2.cell? ⟨w.heap.size + 1, 2, none⟩ = some (.int .i64 0) := HX2.out.cell 2
  have x3 : w2.cell? ⟨w.heap.size + 1, 3, none⟩ = some (.bool false) := HX2.out.cell 3
  have f0 := frozen_of_row w2 (w.heap.size + 1) 0 _ _ HX2.out
  have f1 := frozen_of_row w2 (w.heap.size + 1) 1 _ _ HX2.out
  have f2 := frozen_of_row w2 (w.heap.size + 1) 2 _ _ HX2.out
  have f3 := frozen_of_row w2 (w.heap.size + 1) 3 _ _ HX2.out
  go_wp2
  refine bodyPost_ret (v := .tuple #[.agg #[.int .i64 a0, .int .i64 a1, .int .i64 a2, .bool a3], .bool o]) (by simp [results, Try.results14, x0, x1, x2, x3, go_sem]) rfl ⟨rfl, ?_⟩
  exact set4 HB2.out (by omega) _ _ _ _
set_option maxRecDepth 100000 in
set_option maxHeartbeats 1000000 in
theorem clean_any (q e d : Int) (c : Bool) (e2 d2 : Int) (w : World) :
    Calls Try.prog 15 #[.agg #[.int .i64 q, .int .i64 e, .int .i64 d, .bool c], .int .i64 e2, .int .i64 d2] w fun x w' => x = .returned (.tuple #[nextV q e d c e2 d2 true, .bool (nextB q e d c e2 d2 true)]) ∧ Below w.heap.size w w' := by
  have HBH := Lib.hid (fun W => behind_any q e d c 0 e2 d2 true W)
  obtain ⟨a0, a1, a2, a3, hf⟩ := next_form q e d c e2 d2 true
  rw [hf] at HBH ⊢
  clear hf
  generalize nextB q e d c e2 d2 true = o at *
  obtain ⟨w0, hw0⟩ : ∃ w0, (w.alloc (.cells #[.int .i64 q, .int .i64 e, .int .i64 d, .bool c] 23)).alloc (.cells #[.int .i64 0, .int .i64 0, .int .i64 0, .bool false] 23) = w0 := ⟨_, rfl⟩
  have HX : Hid (Box w0 (w.heap.size + 1) #[.int .i64 0, .int .i64 0, .int .i64 0, .bool false] 23) := by rw [← hw0]; have := heap_alloc_new (w.alloc (.cells #[.int .i64 q, .int .i64 e, .int .i64 d, .bool c] 23)) (.cells #[.int .i64 0, .int .i64 0, .int .i64 0, .bool false] 23); rw [show (w.alloc (.cells #[.int .i64 q, .int .i64 e, .int .i64 d, .bool c] 23)).heap.size = w.heap.size + 1 by simp] at this; exact this
  have HS : Hid (Box w0 w.heap.size #[.int .i64 q, .int .i64 e, .int .i64 d, .bool c] 23) := by rw [← hw0]; exact (show Box (w.alloc (.cells #[.int .i64 q, .int .i64 e, .int .i64 d, .bool c] 23)) w.heap.size #[.int .i64 q, .int .i64 e, .int .i64 d, .bool c] 23 from heap_alloc_new w _).alloc _
  have HB : Hid (Below w.heap.size w w0) := by rw [← hw0]; exact ((Below.refl w.heap.size w).alloc (Nat.le_refl _) _).alloc (by simp) _
  have s0 : w0.cell? ⟨w.heap.size, 0, none⟩ = some (.int .i64 q) := HS.out.cell 0
  have s1 : w0.cell? ⟨w.heap.size, 1, none⟩ = some (.int .i64 e) := HS.out.cell 1
  have s2 : w0.cell? ⟨w.heap.size, 2, none⟩ = some (.int .i64 d) := HS.out.cell 2
  have s3 : w0.cell? ⟨w.heap.size, 3, none⟩ = some (.bool c) := HS.out.cell 3
  go_enter Try.func15, Try.ntmps15
  go_wp2_with fail
  refine (HBH.out _).mono ?_
  rintro x w2 ⟨rfl, hb⟩
  have HX2 := Lib.hid (HX.out.below hb HX.out.lt)
  have HB2 := Lib.hid (HB.out.trans (hb.mono HB.out.size))
  clear hb hw0 s0 s1 s2 s3
  have x0 : w2.cell? ⟨w.heap.size + 1, 0, none⟩ = some (.int .i64 0) := HX2.out.cell 0
  have x1 : w2.cell? ⟨w.heap.size + 1, 1, none⟩ = some (.int .i64 0) := HX2.out.cell 1
  have x2 : w2.cell? ⟨w.heap.size + 1, 2, none⟩ = some (.int .i64 0) := HX2.out.cell 2
  have x3 : w2.cell? ⟨w.heap.size + 1, 3, none⟩ = some (.bool false) := HX2.out.cell 3
  have f0 := frozen_of_row w2 (w.heap.size + 1) 0 _ _ HX2.out
  have f1 := frozen_of_row w2 (w.heap.size + 1) 1 _ _ HX2.out
  have f2 := frozen_of_row w2 (w.heap.size + 1) 2 _ _ HX2.out
  have f3 := frozen_of_row w2 (w.heap.size + 1) 3 _ _ HX2.out
  go_wp2
  refine bodyPost_ret (v := .tuple #[.agg #[.int .i64 a0, .int .i64 a1, .int .i64 a2, .bool a3], .bool o]) (by simp [results, Try.results15, x0, x1, x2, x3, go_sem]) rfl ⟨rfl, ?_⟩
  exact set4 HB2.out (by omega) _ _ _ _
end Go.Proofs.Ytpokicngpapkcaa
