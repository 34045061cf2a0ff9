/- Layer 21: SlotNexts walked. -/
import Derived.Test.YtpokicngpapkcaaSlNext
namespace Go.Proofs.Ytpokicngpapkcaa
open Go.RowKit CrcP FieldP
attribute [local go_sem ↓] Go.wp_at_zero Go.wp_at_succ

theorem slB_next {q e d : Int} {c : Bool} {e2 d2 : Int} {c2 : Bool} (h : slB q e d c = true) (hq : q < 2147483647) : slB (q + 1) e2 d2 c2 = slB 1 e2 d2 c2 := by
  have h1 := slB_le h
  unfold slB
  rw [Bool.eq_iff_iff]
  simp only [decide_eq_true_eq]
  exact ⟨fun ⟨_, _, g⟩ => ⟨by omega, by omega, g⟩, fun ⟨_, _, g⟩ => ⟨by omega, by omega, g⟩⟩
theorem next_no {q e d : Int} {c : Bool} {e2 d2 : Int} {c2 : Bool} (h : slB q e d c = false ∨ ¬ q < 2147483647) : nextB q e d c e2 d2 c2 = false := by
  unfold nextB
  rcases h with h | h
  · rw [h]; rfl
  · rw [slB_no (q := q + 1) (fun g => by have := g.2.1; omega), Bool.and_false]
theorem next_yes {q e d : Int} {c : Bool} {e2 d2 : Int} {c2 : Bool} (h : slB q e d c = true) (hq : q < 2147483647) : nextB q e d c e2 d2 c2 = slB 1 e2 d2 c2 := by
  unfold nextB
  rw [h, slB_next h hq]
  rfl
set_option maxRecDepth 100000 in
set_option maxHeartbeats 2000000 in
theorem nexts_any (q e d : Int) (c : Bool) (e2 d2 : Int) (w : World) :
    Calls Try.prog 4 #[.agg #[.int .i64 q, .int .i64 e, .int .i64 d, .bool c], .int .i64 e2, .int .i64 d2] w fun x w' => x = .returned (.bool true) ∧ Below w.heap.size w w' := by
  have HR1 := Lib.hid (fun W => slRefRight_any q e d c W)
  unfold slC at HR1
  cases h : slB q e d c with
  | false =>
    rw [h] at HR1
    have hb1 := next_no (e := e) (d := d) (c := c) (e2 := e) (d2 := 0) (c2 := false) (.inl h)
    have hb2 := next_no (e := e) (d := d) (c := c) (e2 := e2) (d2 := d2) (c2 := true) (.inl h)
    clear h
    have HD := Lib.hid (fun W => dirty_any q e d c W)
    have HC := Lib.hid (fun W => clean_any q e d c e2 d2 W)
    rw [show nextB q e d c e 0 false = false from hb1, show nextV q e d c e 0 false = .agg #[.int .i64 0, .int .i64 0, .int .i64 0, .bool false] from (by unfold nextV; rw [hb1]; rfl)] at HD
    rw [show nextB q e d c e2 d2 true = false from hb2, show nextV q e d c e2 d2 true = .agg #[.int .i64 0, .int .i64 0, .int .i64 0, .bool false] from (by unfold nextV; rw [hb2]; rfl)] at HC
    clear hb1 hb2
    obtain ⟨w0, hw0⟩ : ∃ w0, w.alloc (.cells #[.int .i64 q, .int .i64 e, .int .i64 d, .bool c] 23) = w0 := ⟨_, rfl⟩
    have HS0 : Hid (Box w0 w.heap.size #[.int .i64 q, .int .i64 e, .int .i64 d, .bool c] 23) := by rw [← hw0]; exact heap_alloc_new w _
    have HB0 : Hid (Below w.heap.size w w0) := by rw [← hw0]; exact (Below.refl w.heap.size w).alloc (Nat.le_refl _) _
    have s0 : w0.cell? ⟨w.heap.size, 0, none⟩ = some (.int .i64 q) := HS0.out.cell 0
    have s1 : w0.cell? ⟨w.heap.size, 1, none⟩ = some (.int .i64 e) := HS0.out.cell 1
    have s2 : w0.cell? ⟨w.heap.size, 2, none⟩ = some (.int .i64 d) := HS0.out.cell 2
    have s3 : w0.cell? ⟨w.heap.size, 3, none⟩ = some (.bool c) := HS0.out.cell 3
    go_enter Try.func4, Try.ntmps4
    go_wp2_with fail
    refine (HD.out _).mono ?_
    rintro x w1 ⟨rfl, hb⟩
    have HS1 := Lib.hid (HS0.out.below hb HS0.out.lt)
    have HB1 := Lib.hid (HB0.out.trans (hb.mono HB0.out.size))
    clear hb hw0 s0 s1 s2 s3
    have s0 : w1.cell? ⟨w.heap.size, 0, none⟩ = some (.int .i64 q) := HS1.out.cell 0
    have s1 : w1.cell? ⟨w.heap.size, 1, none⟩ = some (.int .i64 e) := HS1.out.cell 1
    have s2 : w1.cell? ⟨w.heap.size, 2, none⟩ = some (.int .i64 d) := HS1.out.cell 2
    have s3 : w1.cell? ⟨w.heap.size, 3, none⟩ = some (.bool c) := HS1.out.cell 3
    have hs1 := HS1.out.lt
    go_wp2_with fail
    refine (HC.out _).mono ?_
    rintro x w2 ⟨rfl, hb⟩
    have HB2 := Lib.hid ((HB1.out.alloc HB1.out.size (.cells #[.int .i64 0, .int .i64 0, .int .i64 0, .bool false] 23)).trans (hb.mono (HB1.out.alloc HB1.out.size (.cells #[.int .i64 0, .int .i64 0, .int .i64 0, .bool false] 23)).size))
    have HS2 := Lib.hid ((HS1.out.alloc (.cells #[.int .i64 0, .int .i64 0, .int .i64 0, .bool false] 23)).below hb (HS1.out.alloc (.cells #[.int .i64 0, .int .i64 0, .int .i64 0, .bool false] 23)).lt)
    have HA2 := Lib.hid ((show Box (w1.alloc (.cells #[.int .i64 0, .int .i64 0, .int .i64 0, .bool false] 23)) w1.heap.size #[.int .i64 0, .int .i64 0, .int .i64 0, .bool false] 23 from heap_alloc_new w1 _).below hb (show Box (w1.alloc (.cells #[.int .i64 0, .int .i64 0, .int .i64 0, .bool false] 23)) w1.heap.size #[.int .i64 0, .int .i64 0, .int .i64 0, .bool false] 23 from heap_alloc_new w1 _).lt)
    clear hb s0 s1 s2 s3
    have s0 : w2.cell? ⟨w.heap.size, 0, none⟩ = some (.int .i64 q) := HS2.out.cell 0
    have s1 : w2.cell? ⟨w.heap.size, 1, none⟩ = some (.int .i64 e) := HS2.out.cell 1
    have s2 : w2.cell? ⟨w.heap.size, 2, none⟩ = some (.int .i64 d) := HS2.out.cell 2
    have s3 : w2.cell? ⟨w.heap.size, 3, none⟩ = some (.bool c) := HS2.out.cell 3
    have a0 : w2.cell? ⟨w1.heap.size, 0, none⟩ = some (.int .i64 0) := HA2.out.cell 0
    have a1 : w2.cell? ⟨w1.heap.size, 1, none⟩ = some (.int .i64 0) := HA2.out.cell 1
    have a2 : w2.cell? ⟨w1.heap.size, 2, none⟩ = some (.int .i64 0) := HA2.out.cell 2
    have a3 : w2.cell? ⟨w1.heap.size, 3, none⟩ = some (.bool false) := HA2.out.cell 3
    have hs2 := HS2.out.lt
    have ha2 := HA2.out.lt
    clear HS0 HB0 HS1 HB1 HD HC
    obtain ⟨w5, hw5⟩ : ∃ w5, ((w2.alloc (.cells #[.int .i64 0, .int .i64 0, .int .i64 0, .bool false] 23)).alloc (.cells #[.int .i64 1, .int .i64 e, .int .i64 0, .bool false] 23)).alloc (.cells #[.int .i64 1, .int .i64 e2, .int .i64 d2, .bool true] 23) = w5 := ⟨_, rfl⟩
    have HS5 : Hid (Box w5 w.heap.size #[.int .i64 q, .int .i64 e, .int .i64 d, .bool c] 23) := by rw [← hw5]; exact ((HS2.out.alloc _).alloc _).alloc _
    have HA5 : Hid (Box w5 w1.heap.size #[.int .i64 0, .int .i64 0, .int .i64 0, .bool false] 23) := by rw [← hw5]; exact ((HA2.out.alloc _).alloc _).alloc _
    have HB5 : Hid (Box w5 w2.heap.size #[.int .i64 0, .int .i64 0, .int .i64 0, .bool false] 23) := by rw [← hw5]; exact ((show Box (w2.alloc (.cells #[.int .i64 0, .int .i64 0, .int .i64 0, .bool false] 23)) w2.heap.size #[.int .i64 0, .int .i64 0, .int .i64 0, .bool false] 23 from heap_alloc_new w2 _).alloc _).alloc _
    have HX5 : Hid (Box w5 (w2.heap.size + 1) #[.int .i64 1, .int .i64 e, .int .i64 0, .bool false] 23) := by rw [← hw5]; exact (show Box ((w2.alloc (.cells #[.int .i64 0, .int .i64 0, .int .i64 0, .bool false] 23)).alloc (.cells #[.int .i64 1, .int .i64 e, .int .i64 0, .bool false] 23)) (w2.heap.size + 1) #[.int .i64 1, .int .i64 e, .int .i64 0, .bool false] 23 by have := heap_alloc_new (w2.alloc (.cells #[.int .i64 0, .int .i64 0, .int .i64 0, .bool false] 23)) (.cells #[.int .i64 1, .int .i64 e, .int .i64 0, .bool false] 23); rw [show (w2.alloc (.cells #[.int .i64 0, .int .i64 0, .int .i64 0, .bool false] 23)).heap.size = w2.heap.size + 1 by simp] at this; exact this).alloc _
    have HY5 : Hid (Box w5 (w2.heap.size + 1 + 1) #[.int .i64 1, .int .i64 e2, .int .i64 d2, .bool true] 23) := by rw [← hw5]; have := heap_alloc_new ((w2.alloc (.cells #[.int .i64 0, .int .i64 0, .int .i64 0, .bool false] 23)).alloc (.cells #[.int .i64 1, .int .i64 e, .int .i64 0, .bool false] 23)) (.cells #[.int .i64 1, .int .i64 e2, .int .i64 d2, .bool true] 23); rw [show ((w2.alloc (.cells #[.int .i64 0, .int .i64 0, .int .i64 0, .bool false] 23)).alloc (.cells #[.int .i64 1, .int .i64 e, .int .i64 0, .bool false] 23)).heap.size = w2.heap.size + 1 + 1 by simp] at this; exact this
    have HZ5 : Hid (Below w.heap.size w w5) := by rw [← hw5]; exact (((HB2.out.alloc HB2.out.size _).alloc (HB2.out.alloc HB2.out.size _).size _).alloc ((HB2.out.alloc HB2.out.size _).alloc (HB2.out.alloc HB2.out.size _).size _).size _)
    have t0 : w5.cell? ⟨w.heap.size, 0, none⟩ = some (.int .i64 q) := HS5.out.cell 0
    have t1 : w5.cell? ⟨w.heap.size, 1, none⟩ = some (.int .i64 e) := HS5.out.cell 1
    have t2 : w5.cell? ⟨w.heap.size, 2, none⟩ = some (.int .i64 d) := HS5.out.cell 2
    have t3 : w5.cell? ⟨w.heap.size, 3, none⟩ = some (.bool c) := HS5.out.cell 3
    go_wp2_with (first | (go_at_call 9; refine (HR1.out _).mono ?_; clear HR1; rintro x w6 ⟨rfl, hw⟩; have HS6 : Hid (Box w6 w.heap.size #[.int .i64 q, .int .i64 e, .int .i64 d, .bool c] 23) := (by rw [← hw]; exact HS5.out.alloc _); have HA6 : Hid (Box w6 w1.heap.size #[.int .i64 0, .int .i64 0, .int .i64 0, .bool false] 23) := (by rw [← hw]; exact HA5.out.alloc _); have HB6 : Hid (Box w6 w2.heap.size #[.int .i64 0, .int .i64 0, .int .i64 0, .bool false] 23) := (by rw [← hw]; exact HB5.out.alloc _); have HX6 : Hid (Box w6 (w2.heap.size + 1) #[.int .i64 1, .int .i64 e, .int .i64 0, .bool false] 23) := (by rw [← hw]; exact HX5.out.alloc _); have HY6 : Hid (Box w6 (w2.heap.size + 1 + 1) #[.int .i64 1, .int .i64 e2, .int .i64 d2, .bool true] 23) := (by rw [← hw]; exact HY5.out.alloc _); have HZ6 : Hid (Below w.heap.size w w6) := (by rw [← hw]; exact HZ5.out.alloc HZ5.out.size _); clear hw; have ks0 : w6.cell? ⟨w.heap.size, 0, none⟩ = some (.int .i64 q) := HS6.out.cell 0; have ka0 : w6.cell? ⟨w1.heap.size, 0, none⟩ = some (.int .i64 0) := HA6.out.cell 0; have ka1 : w6.cell? ⟨w1.heap.size, 1, none⟩ = some (.int .i64 0) := HA6.out.cell 1; have ka2 : w6.cell? ⟨w1.heap.size, 2, none⟩ = some (.int .i64 0) := HA6.out.cell 2; have ka3 : w6.cell? ⟨w1.heap.size, 3, none⟩ = some (.bool false) := HA6.out.cell 3; have kb0 : w6.cell? ⟨w2.heap.size, 0, none⟩ = some (.int .i64 0) := HB6.out.cell 0; have kb1 : w6.cell? ⟨w2.heap.size, 1, none⟩ = some (.int .i64 0) := HB6.out.cell 1; have kb2 : w6.cell? ⟨w2.heap.size, 2, none⟩ = some (.int .i64 0) := HB6.out.cell 2; have kb3 : w6.cell? ⟨w2.heap.size, 3, none⟩ = some (.bool false) := HB6.out.cell 3) | (go_at_call 12; refine (slLives_any _).mono ?_; rintro x w16 ⟨rfl, hb⟩; have HB9 := Lib.hid (HZ6.out.trans (hb.mono HZ6.out.size)); clear hb))
    go_ret
    exact ⟨rfl, HB9.out⟩
  | true =>
    rw [h] at HR1
    by_cases hq : q < 2147483647
    case neg =>
      have hb1 := next_no (e := e) (d := d) (c := c) (e2 := e) (d2 := 0) (c2 := false) (.inr hq)
      have hb2 := next_no (e := e) (d := d) (c := c) (e2 := e2) (d2 := d2) (c2 := true) (.inr hq)
      have hqd : decide (q < 2147483647) = false := decide_eq_false hq
      clear h hq
      have HD := Lib.hid (fun W => dirty_any q e d c W)
      have HC := Lib.hid (fun W => clean_any q e d c e2 d2 W)
      rw [show nextB q e d c e 0 false = false from hb1, show nextV q e d c e 0 false = .agg #[.int .i64 0, .int .i64 0, .int .i64 0, .bool false] from (by unfold nextV; rw [hb1]; rfl)] at HD
      rw [show nextB q e d c e2 d2 true = false from hb2, show nextV q e d c e2 d2 true = .agg #[.int .i64 0, .int .i64 0, .int .i64 0, .bool false] from (by unfold nextV; rw [hb2]; rfl)] at HC
      clear hb1 hb2
      obtain ⟨w0, hw0⟩ : ∃ w0, w.alloc (.cells #[.int .i64 q, .int .i64 e, .int .i64 d, .bool c] 23) = w0 := ⟨_, rfl⟩
      have HS0 : Hid (Box w0 w.heap.size #[.int .i64 q, .int .i64 e, .int .i64 d, .bool c] 23) := by rw [← hw0]; exact heap_alloc_new w _
      have HB0 : Hid (Below w.heap.size w w0) := by rw [← hw0]; exact (Below.refl w.heap.size w).alloc (Nat.le_refl _) _
      have s0 : w0.cell? ⟨w.heap.size, 0, none⟩ = some (.int .i64 q) := HS0.out.cell 0
      have s1 : w0.cell? ⟨w.heap.size, 1, none⟩ = some (.int .i64 e) := HS0.out.cell 1
      have s2 : w0.cell? ⟨w.heap.size, 2, none⟩ = some (.int .i64 d) := HS0.out.cell 2
      have s3 : w0.cell? ⟨w.heap.size, 3, none⟩ = some (.bool c) := HS0.out.cell 3
      go_enter Try.func4, Try.ntmps4
      go_wp2_with fail
      refine (HD.out _).mono ?_
      rintro x w1 ⟨rfl, hb⟩
      have HS1 := Lib.hid (HS0.out.below hb HS0.out.lt)
      have HB1 := Lib.hid (HB0.out.trans (hb.mono HB0.out.size))
      clear hb hw0 s0 s1 s2 s3
      have s0 : w1.cell? ⟨w.heap.size, 0, none⟩ = some (.int .i64 q) := HS1.out.cell 0
      have s1 : w1.cell? ⟨w.heap.size, 1, none⟩ = some (.int .i64 e) := HS1.out.cell 1
      have s2 : w1.cell? ⟨w.heap.size, 2, none⟩ = some (.int .i64 d) := HS1.out.cell 2
      have s3 : w1.cell? ⟨w.heap.size, 3, none⟩ = some (.bool c) := HS1.out.cell 3
      have hs1 := HS1.out.lt
      go_wp2_with fail
      refine (HC.out _).mono ?_
      rintro x w2 ⟨rfl, hb⟩
      have HB2 := Lib.hid ((HB1.out.alloc HB1.out.size (.cells #[.int .i64 0, .int .i64 0, .int .i64 0, .bool false] 23)).trans (hb.mono (HB1.out.alloc HB1.out.size (.cells #[.int .i64 0, .int .i64 0, .int .i64 0, .bool false] 23)).size))
      have HS2 := Lib.hid ((HS1.out.alloc (.cells #[.int .i64 0, .int .i64 0, .int .i64 0, .bool false] 23)).below hb (HS1.out.alloc (.cells #[.int .i64 0, .int .i64 0, .int .i64 0, .bool false] 23)).lt)
      have HA2 := Lib.hid ((show Box (w1.alloc (.cells #[.int .i64 0, .int .i64 0, .int .i64 0, .bool false] 23)) w1.heap.size #[.int .i64 0, .int .i64 0, .int .i64 0, .bool false] 23 from heap_alloc_new w1 _).below hb (show Box (w1.alloc (.cells #[.int .i64 0, .int .i64 0, .int .i64 0, .bool false] 23)) w1.heap.size #[.int .i64 0, .int .i64 0, .int .i64 0, .bool false] 23 from heap_alloc_new w1 _).lt)
      clear hb s0 s1 s2 s3
      have s0 : w2.cell? ⟨w.heap.size, 0, none⟩ = some (.int .i64 q) := HS2.out.cell 0
      have s1 : w2.cell? ⟨w.heap.size, 1, none⟩ = some (.int .i64 e) := HS2.out.cell 1
      have s2 : w2.cell? ⟨w.heap.size, 2, none⟩ = some (.int .i64 d) := HS2.out.cell 2
      have s3 : w2.cell? ⟨w.heap.size, 3, none⟩ = some (.bool c) := HS2.out.cell 3
      have a0 : w2.cell? ⟨w1.heap.size, 0, none⟩ = some (.int .i64 0) := HA2.out.cell 0
      have a1 : w2.cell? ⟨w1.heap.size, 1, none⟩ = some (.int .i64 0) := HA2.out.cell 1
      have a2 : w2.cell? ⟨w1.heap.size, 2, none⟩ = some (.int .i64 0) := HA2.out.cell 2
      have a3 : w2.cell? ⟨w1.heap.size, 3, none⟩ = some (.bool false) := HA2.out.cell 3
      have hs2 := HS2.out.lt
      have ha2 := HA2.out.lt
      clear HS0 HB0 HS1 HB1 HD HC
      obtain ⟨w5, hw5⟩ : ∃ w5, ((w2.alloc (.cells #[.int .i64 0, .int .i64 0, .int .i64 0, .bool false] 23)).alloc (.cells #[.int .i64 1, .int .i64 e, .int .i64 0, .bool false] 23)).alloc (.cells #[.int .i64 1, .int .i64 e2, .int .i64 d2, .bool true] 23) = w5 := ⟨_, rfl⟩
      have HS5 : Hid (Box w5 w.heap.size #[.int .i64 q, .int .i64 e, .int .i64 d, .bool c] 23) := by rw [← hw5]; exact ((HS2.out.alloc _).alloc _).alloc _
      have HA5 : Hid (Box w5 w1.heap.size #[.int .i64 0, .int .i64 0, .int .i64 0, .bool false] 23) := by rw [← hw5]; exact ((HA2.out.alloc _).alloc _).alloc _
      have HB5 : Hid (Box w5 w2.heap.size #[.int .i64 0, .int .i64 0, .int .i64 0, .bool false] 23) := by rw [← hw5]; exact ((show Box (w2.alloc (.cells #[.int .i64 0, .int .i64 0, .int .i64 0, .bool false] 23)) w2.heap.size #[.int .i64 0, .int .i64 0, .int .i64 0, .bool false] 23 from heap_alloc_new w2 _).alloc _).alloc _
      have HX5 : Hid (Box w5 (w2.heap.size + 1) #[.int .i64 1, .int .i64 e, .int .i64 0, .bool false] 23) := by rw [← hw5]; exact (show Box ((w2.alloc (.cells #[.int .i64 0, .int .i64 0, .int .i64 0, .bool false] 23)).alloc (.cells #[.int .i64 1, .int .i64 e, .int .i64 0, .bool false] 23)) (w2.heap.size + 1) #[.int .i64 1, .int .i64 e, .int .i64 0, .bool false] 23 by have := heap_alloc_new (w2.alloc (.cells #[.int .i64 0, .int .i64 0, .int .i64 0, .bool false] 23)) (.cells #[.int .i64 1, .int .i64 e, .int .i64 0, .bool false] 23); rw [show (w2.alloc (.cells #[.int .i64 0, .int .i64 0, .int .i64 0, .bool false] 23)).heap.size = w2.heap.size + 1 by simp] at this; exact this).alloc _
      have HY5 : Hid (Box w5 (w2.heap.size + 1 + 1) #[.int .i64 1, .int .i64 e2, .int .i64 d2, .bool true] 23) := by rw [← hw5]; have := heap_alloc_new ((w2.alloc (.cells #[.int .i64 0, .int .i64 0, .int .i64 0, .bool false] 23)).alloc (.cells #[.int .i64 1, .int .i64 e, .int .i64 0, .bool false] 23)) (.cells #[.int .i64 1, .int .i64 e2, .int .i64 d2, .bool true] 23); rw [show ((w2.alloc (.cells #[.int .i64 0, .int .i64 0, .int .i64 0, .bool false] 23)).alloc (.cells #[.int .i64 1, .int .i64 e, .int .i64 0, .bool false] 23)).heap.size = w2.heap.size + 1 + 1 by simp] at this; exact this
      have HZ5 : Hid (Below w.heap.size w w5) := by rw [← hw5]; exact (((HB2.out.alloc HB2.out.size _).alloc (HB2.out.alloc HB2.out.size _).size _).alloc ((HB2.out.alloc HB2.out.size _).alloc (HB2.out.alloc HB2.out.size _).size _).size _)
      have t0 : w5.cell? ⟨w.heap.size, 0, none⟩ = some (.int .i64 q) := HS5.out.cell 0
      have t1 : w5.cell? ⟨w.heap.size, 1, none⟩ = some (.int .i64 e) := HS5.out.cell 1
      have t2 : w5.cell? ⟨w.heap.size, 2, none⟩ = some (.int .i64 d) := HS5.out.cell 2
      have t3 : w5.cell? ⟨w.heap.size, 3, none⟩ = some (.bool c) := HS5.out.cell 3
      go_wp2_with (first | (go_at_call 9; refine (HR1.out _).mono ?_; clear HR1; rintro x w6 ⟨rfl, hw⟩; have HS6 : Hid (Box w6 w.heap.size #[.int .i64 q, .int .i64 e, .int .i64 d, .bool c] 23) := (by rw [← hw]; exact HS5.out.alloc _); have HA6 : Hid (Box w6 w1.heap.size #[.int .i64 0, .int .i64 0, .int .i64 0, .bool false] 23) := (by rw [← hw]; exact HA5.out.alloc _); have HB6 : Hid (Box w6 w2.heap.size #[.int .i64 0, .int .i64 0, .int .i64 0, .bool false] 23) := (by rw [← hw]; exact HB5.out.alloc _); have HX6 : Hid (Box w6 (w2.heap.size + 1) #[.int .i64 1, .int .i64 e, .int .i64 0, .bool false] 23) := (by rw [← hw]; exact HX5.out.alloc _); have HY6 : Hid (Box w6 (w2.heap.size + 1 + 1) #[.int .i64 1, .int .i64 e2, .int .i64 d2, .bool true] 23) := (by rw [← hw]; exact HY5.out.alloc _); have HZ6 : Hid (Below w.heap.size w w6) := (by rw [← hw]; exact HZ5.out.alloc HZ5.out.size _); clear hw; have ks0 : w6.cell? ⟨w.heap.size, 0, none⟩ = some (.int .i64 q) := HS6.out.cell 0; have ka0 : w6.cell? ⟨w1.heap.size, 0, none⟩ = some (.int .i64 0) := HA6.out.cell 0; have ka1 : w6.cell? ⟨w1.heap.size, 1, none⟩ = some (.int .i64 0) := HA6.out.cell 1; have ka2 : w6.cell? ⟨w1.heap.size, 2, none⟩ = some (.int .i64 0) := HA6.out.cell 2; have ka3 : w6.cell? ⟨w1.heap.size, 3, none⟩ = some (.bool false) := HA6.out.cell 3; have kb0 : w6.cell? ⟨w2.heap.size, 0, none⟩ = some (.int .i64 0) := HB6.out.cell 0; have kb1 : w6.cell? ⟨w2.heap.size, 1, none⟩ = some (.int .i64 0) := HB6.out.cell 1; have kb2 : w6.cell? ⟨w2.heap.size, 2, none⟩ = some (.int .i64 0) := HB6.out.cell 2; have kb3 : w6.cell? ⟨w2.heap.size, 3, none⟩ = some (.bool false) := HB6.out.cell 3) | (go_at_call 12; refine (slLives_any _).mono ?_; rintro x w16 ⟨rfl, hb⟩; have HB9 := Lib.hid (HZ6.out.trans (hb.mono HZ6.out.size)); clear hb))
      go_ret
      exact ⟨rfl, HB9.out⟩
    have hb1 := next_yes (e2 := e) (d2 := 0) (c2 := false) h hq
    have hb2 := next_yes (e2 := e2) (d2 := d2) (c2 := true) h hq
    have hqd : decide (q < 2147483647) = true := decide_eq_true hq
    have hw : IntKind.i64.wrap (q + 1) = q + 1 := IntWalk.i64_in _ (by have := slB_le h; omega)
    have HR2 := Lib.hid (fun W => slRefRight_any 1 e 0 false W)
    have HR3 := Lib.hid (fun W => slRefRight_any 1 e2 d2 true W)
    unfold slC at HR2 HR3
    clear h hq
    cases h1 : slB 1 e 0 false with
    | false =>
      rw [h1] at hb1 HR2
      clear h1
      cases h2 : slB 1 e2 d2 true with
      | false =>
        rw [h2] at hb2 HR3
        clear h2
        have HD := Lib.hid (fun W => dirty_any q e d c W)
        have HC := Lib.hid (fun W => clean_any q e d c e2 d2 W)
        rw [show nextB q e d c e 0 false = false from hb1, show nextV q e d c e 0 false = .agg #[.int .i64 0, .int .i64 0, .int .i64 0, .bool false] from (by unfold nextV; rw [hb1]; rfl)] at HD
        rw [show nextB q e d c e2 d2 true = false from hb2, show nextV q e d c e2 d2 true = .agg #[.int .i64 0, .int .i64 0, .int .i64 0, .bool false] from (by unfold nextV; rw [hb2]; rfl)] at HC
        clear hb1 hb2
        obtain ⟨w0, hw0⟩ : ∃ w0, w.alloc (.cells #[.int .i64 q, .int .i64 e, .int .i64 d, .bool c] 23) = w0 := ⟨_, rfl⟩
        have HS0 : Hid (Box w0 w.heap.size #[.int .i64 q, .int .i64 e, .int .i64 d, .bool c] 23) := by rw [← hw0]; exact heap_alloc_new w _
        have HB0 : Hid (Below w.heap.size w w0) := by rw [← hw0]; exact (Below.refl w.heap.size w).alloc (Nat.le_refl _) _
        have s0 : w0.cell? ⟨w.heap.size, 0, none⟩ = some (.int .i64 q) := HS0.out.cell 0
        have s1 : w0.cell? ⟨w.heap.size, 1, none⟩ = some (.int .i64 e) := HS0.out.cell 1
        have s2 : w0.cell? ⟨w.heap.size, 2, none⟩ = some (.int .i64 d) := HS0.out.cell 2
        have s3 : w0.cell? ⟨w.heap.size, 3, none⟩ = some (.bool c) := HS0.out.cell 3
        go_enter Try.func4, Try.ntmps4
        go_wp2_with fail
        refine (HD.out _).mono ?_
        rintro x w1 ⟨rfl, hb⟩
        have HS1 := Lib.hid (HS0.out.below hb HS0.out.lt)
        have HB1 := Lib.hid (HB0.out.trans (hb.mono HB0.out.size))
        clear hb hw0 s0 s1 s2 s3
        have s0 : w1.cell? ⟨w.heap.size, 0, none⟩ = some (.int .i64 q) := HS1.out.cell 0
        have s1 : w1.cell? ⟨w.heap.size, 1, none⟩ = some (.int .i64 e) := HS1.out.cell 1
        have s2 : w1.cell? ⟨w.heap.size, 2, none⟩ = some (.int .i64 d) := HS1.out.cell 2
        have s3 : w1.cell? ⟨w.heap.size, 3, none⟩ = some (.bool c) := HS1.out.cell 3
        have hs1 := HS1.out.lt
        go_wp2_with fail
        refine (HC.out _).mono ?_
        rintro x w2 ⟨rfl, hb⟩
        have HB2 := Lib.hid ((HB1.out.alloc HB1.out.size (.cells #[.int .i64 0, .int .i64 0, .int .i64 0, .bool false] 23)).trans (hb.mono (HB1.out.alloc HB1.out.size (.cells #[.int .i64 0, .int .i64 0, .int .i64 0, .bool false] 23)).size))
        have HS2 := Lib.hid ((HS1.out.alloc (.cells #[.int .i64 0, .int .i64 0, .int .i64 0, .bool false] 23)).below hb (HS1.out.alloc (.cells #[.int .i64 0, .int .i64 0, .int .i64 0, .bool false] 23)).lt)
        have HA2 := Lib.hid ((show Box (w1.alloc (.cells #[.int .i64 0, .int .i64 0, .int .i64 0, .bool false] 23)) w1.heap.size #[.int .i64 0, .int .i64 0, .int .i64 0, .bool false] 23 from heap_alloc_new w1 _).below hb (show Box (w1.alloc (.cells #[.int .i64 0, .int .i64 0, .int .i64 0, .bool false] 23)) w1.heap.size #[.int .i64 0, .int .i64 0, .int .i64 0, .bool false] 23 from heap_alloc_new w1 _).lt)
        clear hb s0 s1 s2 s3
        have s0 : w2.cell? ⟨w.heap.size, 0, none⟩ = some (.int .i64 q) := HS2.out.cell 0
        have s1 : w2.cell? ⟨w.heap.size, 1, none⟩ = some (.int .i64 e) := HS2.out.cell 1
        have s2 : w2.cell? ⟨w.heap.size, 2, none⟩ = some (.int .i64 d) := HS2.out.cell 2
        have s3 : w2.cell? ⟨w.heap.size, 3, none⟩ = some (.bool c) := HS2.out.cell 3
        have a0 : w2.cell? ⟨w1.heap.size, 0, none⟩ = some (.int .i64 0) := HA2.out.cell 0
        have a1 : w2.cell? ⟨w1.heap.size, 1, none⟩ = some (.int .i64 0) := HA2.out.cell 1
        have a2 : w2.cell? ⟨w1.heap.size, 2, none⟩ = some (.int .i64 0) := HA2.out.cell 2
        have a3 : w2.cell? ⟨w1.heap.size, 3, none⟩ = some (.bool false) := HA2.out.cell 3
        have hs2 := HS2.out.lt
        have ha2 := HA2.out.lt
        clear HS0 HB0 HS1 HB1 HD HC
        obtain ⟨w5, hw5⟩ : ∃ w5, ((w2.alloc (.cells #[.int .i64 0, .int .i64 0, .int .i64 0, .bool false] 23)).alloc (.cells #[.int .i64 1, .int .i64 e, .int .i64 0, .bool false] 23)).alloc (.cells #[.int .i64 1, .int .i64 e2, .int .i64 d2, .bool true] 23) = w5 := ⟨_, rfl⟩
        have HS5 : Hid (Box w5 w.heap.size #[.int .i64 q, .int .i64 e, .int .i64 d, .bool c] 23) := by rw [← hw5]; exact ((HS2.out.alloc _).alloc _).alloc _
        have HA5 : Hid (Box w5 w1.heap.size #[.int .i64 0, .int .i64 0, .int .i64 0, .bool false] 23) := by rw [← hw5]; exact ((HA2.out.alloc _).alloc _).alloc _
        have HB5 : Hid (Box w5 w2.heap.size #[.int .i64 0, .int .i64 0, .int .i64 0, .bool false] 23) := by rw [← hw5]; exact ((show Box (w2.alloc (.cells #[.int .i64 0, .int .i64 0, .int .i64 0, .bool false] 23)) w2.heap.size #[.int .i64 0, .int .i64 0, .int .i64 0, .bool false] 23 from heap_alloc_new w2 _).alloc _).alloc _
        have HX5 : Hid (Box w5 (w2.heap.size + 1) #[.int .i64 1, .int .i64 e, .int .i64 0, .bool false] 23) := by rw [← hw5]; exact (show Box ((w2.alloc (.cells #[.int .i64 0, .int .i64 0, .int .i64 0, .bool false] 23)).alloc (.cells #[.int .i64 1, .int .i64 e, .int .i64 0, .bool false] 23)) (w2.heap.size + 1) #[.int .i64 1, .int .i64 e, .int .i64 0, .bool false] 23 by have := heap_alloc_new (w2.alloc (.cells #[.int .i64 0, .int .i64 0, .int .i64 0, .bool false] 23)) (.cells #[.int .i64 1, .int .i64 e, .int .i64 0, .bool false] 23); rw [show (w2.alloc (.cells #[.int .i64 0, .int .i64 0, .int .i64 0, .bool false] 23)).heap.size = w2.heap.size + 1 by simp] at this; exact this).alloc _
        have HY5 : Hid (Box w5 (w2.heap.size + 1 + 1) #[.int .i64 1, .int .i64 e2, .int .i64 d2, .bool true] 23) := by rw [← hw5]; have := heap_alloc_new ((w2.alloc (.cells #[.int .i64 0, .int .i64 0, .int .i64 0, .bool false] 23)).alloc (.cells #[.int .i64 1, .int .i64 e, .int .i64 0, .bool false] 23)) (.cells #[.int .i64 1, .int .i64 e2, .int .i64 d2, .bool true] 23); rw [show ((w2.alloc (.cells #[.int .i64 0, .int .i64 0, .int .i64 0, .bool false] 23)).alloc (.cells #[.int .i64 1, .int .i64 e, .int .i64 0, .bool false] 23)).heap.size = w2.heap.size + 1 + 1 by simp] at this; exact this
        have HZ5 : Hid (Below w.heap.size w w5) := by rw [← hw5]; exact (((HB2.out.alloc HB2.out.size _).alloc (HB2.out.alloc HB2.out.size _).size _).alloc ((HB2.out.alloc HB2.out.size _).alloc (HB2.out.alloc HB2.out.size _).size _).size _)
        have t0 : w5.cell? ⟨w.heap.size, 0, none⟩ = some (.int .i64 q) := HS5.out.cell 0
        have t1 : w5.cell? ⟨w.heap.size, 1, none⟩ = some (.int .i64 e) := HS5.out.cell 1
        have t2 : w5.cell? ⟨w.heap.size, 2, none⟩ = some (.int .i64 d) := HS5.out.cell 2
        have t3 : w5.cell? ⟨w.heap.size, 3, none⟩ = some (.bool c) := HS5.out.cell 3
        go_wp2_with (first | (go_at_call 9; refine (HR1.out _).mono ?_; clear HR1; rintro x w6 ⟨rfl, hw⟩; have HS6 : Hid (Box w6 w.heap.size #[.int .i64 q, .int .i64 e, .int .i64 d, .bool c] 23) := (by rw [← hw]; exact HS5.out.alloc _); have HA6 : Hid (Box w6 w1.heap.size #[.int .i64 0, .int .i64 0, .int .i64 0, .bool false] 23) := (by rw [← hw]; exact HA5.out.alloc _); have HB6 : Hid (Box w6 w2.heap.size #[.int .i64 0, .int .i64 0, .int .i64 0, .bool false] 23) := (by rw [← hw]; exact HB5.out.alloc _); have HX6 : Hid (Box w6 (w2.heap.size + 1) #[.int .i64 1, .int .i64 e, .int .i64 0, .bool false] 23) := (by rw [← hw]; exact HX5.out.alloc _); have HY6 : Hid (Box w6 (w2.heap.size + 1 + 1) #[.int .i64 1, .int .i64 e2, .int .i64 d2, .bool true] 23) := (by rw [← hw]; exact HY5.out.alloc _); have HZ6 : Hid (Below w.heap.size w w6) := (by rw [← hw]; exact HZ5.out.alloc HZ5.out.size _); clear hw; have ks0 : w6.cell? ⟨w.heap.size, 0, none⟩ = some (.int .i64 q) := HS6.out.cell 0; have kx0 : w6.cell? ⟨w2.heap.size + 1, 0, none⟩ = some (.int .i64 1) := HX6.out.cell 0; have kx1 : w6.cell? ⟨w2.heap.size + 1, 1, none⟩ = some (.int .i64 e) := HX6.out.cell 1; have kx2 : w6.cell? ⟨w2.heap.size + 1, 2, none⟩ = some (.int .i64 0) := HX6.out.cell 2; have kx3 : w6.cell? ⟨w2.heap.size + 1, 3, none⟩ = some (.bool false) := HX6.out.cell 3) | (go_at_call 9; refine (HR2.out _).mono ?_; clear HR2; rintro x w7 ⟨rfl, hw⟩; have HS7 : Hid (Box w7 w.heap.size #[.int .i64 q, .int .i64 e, .int .i64 d, .bool c] 23) := (by rw [← hw]; exact HS6.out.alloc _); have HA7 : Hid (Box w7 w1.heap.size #[.int .i64 0, .int .i64 0, .int .i64 0, .bool false] 23) := (by rw [← hw]; exact HA6.out.alloc _); have HB7 : Hid (Box w7 w2.heap.size #[.int .i64 0, .int .i64 0, .int .i64 0, .bool false] 23) := (by rw [← hw]; exact HB6.out.alloc _); have HX7 : Hid (Box w7 (w2.heap.size + 1) #[.int .i64 1, .int .i64 e, .int .i64 0, .bool false] 23) := (by rw [← hw]; exact HX6.out.alloc _); have HY7 : Hid (Box w7 (w2.heap.size + 1 + 1) #[.int .i64 1, .int .i64 e2, .int .i64 d2, .bool true] 23) := (by rw [← hw]; exact HY6.out.alloc _); have HZ7 : Hid (Below w.heap.size w w7) := (by rw [← hw]; exact HZ6.out.alloc HZ6.out.size _); clear hw; have ly0 : w7.cell? ⟨w2.heap.size + 1 + 1, 0, none⟩ = some (.int .i64 1) := HY7.out.cell 0; have ly1 : w7.cell? ⟨w2.heap.size + 1 + 1, 1, none⟩ = some (.int .i64 e2) := HY7.out.cell 1; have ly2 : w7.cell? ⟨w2.heap.size + 1 + 1, 2, none⟩ = some (.int .i64 d2) := HY7.out.cell 2; have ly3 : w7.cell? ⟨w2.heap.size + 1 + 1, 3, none⟩ = some (.bool true) := HY7.out.cell 3) | (go_at_call 9; refine (HR3.out _).mono ?_; clear HR3; rintro x w8 ⟨rfl, hw⟩; have HS8 : Hid (Box w8 w.heap.size #[.int .i64 q, .int .i64 e, .int .i64 d, .bool c] 23) := (by rw [← hw]; exact HS7.out.alloc _); have HA8 : Hid (Box w8 w1.heap.size #[.int .i64 0, .int .i64 0, .int .i64 0, .bool false] 23) := (by rw [← hw]; exact HA7.out.alloc _); have HB8 : Hid (Box w8 w2.heap.size #[.int .i64 0, .int .i64 0, .int .i64 0, .bool false] 23) := (by rw [← hw]; exact HB7.out.alloc _); have HX8 : Hid (Box w8 (w2.heap.size + 1) #[.int .i64 1, .int .i64 e, .int .i64 0, .bool false] 23) := (by rw [← hw]; exact HX7.out.alloc _); have HY8 : Hid (Box w8 (w2.heap.size + 1 + 1) #[.int .i64 1, .int .i64 e2, .int .i64 d2, .bool true] 23) := (by rw [← hw]; exact HY7.out.alloc _); have HZ8 : Hid (Below w.heap.size w w8) := (by rw [← hw]; exact HZ7.out.alloc HZ7.out.size _); clear hw; have ms0 : w8.cell? ⟨w.heap.size, 0, none⟩ = some (.int .i64 q) := HS8.out.cell 0; have mx0 : w8.cell? ⟨w2.heap.size + 1, 0, none⟩ = some (.int .i64 1) := HX8.out.cell 0; have my0 : w8.cell? ⟨w2.heap.size + 1 + 1, 0, none⟩ = some (.int .i64 1) := HY8.out.cell 0; have fx := frozen_of_row w8 (w2.heap.size + 1) 0 _ _ HX8.out; have fy := frozen_of_row (w8.setCell ⟨w2.heap.size + 1, 0, none⟩ (.int .i64 (q + 1))) (w2.heap.size + 1 + 1) 0 _ _ (HY8.out.set_other (.int .i64 (q + 1)) (by omega)); have cy : (w8.setCell ⟨w2.heap.size + 1, 0, none⟩ (.int .i64 (q + 1))).cell? ⟨w2.heap.size + 1 + 1, 0, none⟩ = some (.int .i64 1) := (HY8.out.set_other (.int .i64 (q + 1)) (by omega)).cell 0; have cs : (w8.setCell ⟨w2.heap.size + 1, 0, none⟩ (.int .i64 (q + 1))).cell? ⟨w.heap.size, 0, none⟩ = some (.int .i64 q) := (HS8.out.set_other (.int .i64 (q + 1)) (by omega)).cell 0; obtain ⟨w9, hw9⟩ : ∃ w9, ((w8.setCell ⟨w2.heap.size + 1, 0, none⟩ (.int .i64 (q + 1))).setCell ⟨w2.heap.size + 1 + 1, 0, none⟩ (.int .i64 (q + 1))) = w9 := ⟨_, rfl⟩; have HA9 : Hid (Box w9 w1.heap.size #[.int .i64 0, .int .i64 0, .int .i64 0, .bool false] 23) := (by rw [← hw9]; exact (HA8.out.set_other _ (by omega)).set_other _ (by omega)); have HB9 : Hid (Box w9 w2.heap.size #[.int .i64 0, .int .i64 0, .int .i64 0, .bool false] 23) := (by rw [← hw9]; exact (HB8.out.set_other _ (by omega)).set_other _ (by omega)); have HX9 : Hid (Box w9 (w2.heap.size + 1) #[.int .i64 (q + 1), .int .i64 e, .int .i64 0, .bool false] 23) := (by rw [← hw9]; exact (HX8.out.set (.int .i64 (q + 1))).set_other _ (by omega)); have HY9 : Hid (Box w9 (w2.heap.size + 1 + 1) #[.int .i64 (q + 1), .int .i64 e2, .int .i64 d2, .bool true] 23) := (by rw [← hw9]; exact (HY8.out.set_other _ (by omega)).set (.int .i64 (q + 1))); have HZ9 : Hid (Below w.heap.size w w9) := (by rw [← hw9]; exact (HZ8.out.setCell (p := ⟨w2.heap.size + 1, 0, none⟩) (by show w.heap.size ≤ w2.heap.size + 1; omega) _).setCell (p := ⟨w2.heap.size + 1 + 1, 0, none⟩) (by show w.heap.size ≤ w2.heap.size + 1 + 1; omega) _); have na0 : w9.cell? ⟨w1.heap.size, 0, none⟩ = some (.int .i64 0) := HA9.out.cell 0; have na1 : w9.cell? ⟨w1.heap.size, 1, none⟩ = some (.int .i64 0) := HA9.out.cell 1; have na2 : w9.cell? ⟨w1.heap.size, 2, none⟩ = some (.int .i64 0) := HA9.out.cell 2; have na3 : w9.cell? ⟨w1.heap.size, 3, none⟩ = some (.bool false) := HA9.out.cell 3; have nb0 : w9.cell? ⟨w2.heap.size, 0, none⟩ = some (.int .i64 0) := HB9.out.cell 0; have nb1 : w9.cell? ⟨w2.heap.size, 1, none⟩ = some (.int .i64 0) := HB9.out.cell 1; have nb2 : w9.cell? ⟨w2.heap.size, 2, none⟩ = some (.int .i64 0) := HB9.out.cell 2; have nb3 : w9.cell? ⟨w2.heap.size, 3, none⟩ = some (.bool false) := HB9.out.cell 3; have nx0 : w9.cell? ⟨w2.heap.size + 1, 0, none⟩ = some (.int .i64 (q + 1)) := HX9.out.cell 0; have nx1 : w9.cell? ⟨w2.heap.size + 1, 1, none⟩ = some (.int .i64 e) := HX9.out.cell 1; have nx2 : w9.cell? ⟨w2.heap.size + 1, 2, none⟩ = some (.int .i64 0) := HX9.out.cell 2; have nx3 : w9.cell? ⟨w2.heap.size + 1, 3, none⟩ = some (.bool false) := HX9.out.cell 3; have ny0 : w9.cell? ⟨w2.heap.size + 1 + 1, 0, none⟩ = some (.int .i64 (q + 1)) := HY9.out.cell 0; have ny1 : w9.cell? ⟨w2.heap.size + 1 + 1, 1, none⟩ = some (.int .i64 e2) := HY9.out.cell 1; have ny2 : w9.cell? ⟨w2.heap.size + 1 + 1, 2, none⟩ = some (.int .i64 d2) := HY9.out.cell 2; have ny3 : w9.cell? ⟨w2.heap.size + 1 + 1, 3, none⟩ = some (.bool true) := HY9.out.cell 3) | (go_at_call 12; refine (slLives_any _).mono ?_; rintro x w16 ⟨rfl, hb⟩; have HB9 := Lib.hid (HZ9.out.trans (hb.mono HZ9.out.size)); clear hb))
        go_ret
        exact ⟨rfl, HB9.out⟩
      | true =>
        rw [h2] at hb2 HR3
        clear h2
        have HD := Lib.hid (fun W => dirty_any q e d c W)
        have HC := Lib.hid (fun W => clean_any q e d c e2 d2 W)
        rw [show nextB q e d c e 0 false = false from hb1, show nextV q e d c e 0 false = .agg #[.int .i64 0, .int .i64 0, .int .i64 0, .bool false] from (by unfold nextV; rw [hb1]; rfl)] at HD
        rw [show nextB q e d c e2 d2 true = true from hb2, show nextV q e d c e2 d2 true = .agg #[.int .i64 (q + 1), .int .i64 e2, .int .i64 d2, .bool true] from (by unfold nextV; rw [hb2]; rfl)] at HC
        clear hb1 hb2
        obtain ⟨w0, hw0⟩ : ∃ w0, w.alloc (.cells #[.int .i64 q, .int .i64 e, .int .i64 d, .bool c] 23) = w0 := ⟨_, rfl⟩
        have HS0 : Hid (Box w0 w.heap.size #[.int .i64 q, .int .i64 e, .int .i64 d, .bool c] 23) := by rw [← hw0]; exact heap_alloc_new w _
        have HB0 : Hid (Below w.heap.size w w0) := by rw [← hw0]; exact (Below.refl w.heap.size w).alloc (Nat.le_refl _) _
        have s0 : w0.cell? ⟨w.heap.size, 0, none⟩ = some (.int .i64 q) := HS0.out.cell 0
        have s1 : w0.cell? ⟨w.heap.size, 1, none⟩ = some (.int .i64 e) := HS0.out.cell 1
        have s2 : w0.cell? ⟨w.heap.size, 2, none⟩ = some (.int .i64 d) := HS0.out.cell 2
        have s3 : w0.cell? ⟨w.heap.size, 3, none⟩ = some (.bool c) := HS0.out.cell 3
        go_enter Try.func4, Try.ntmps4
        go_wp2_with fail
        refine (HD.out _).mono ?_
        rintro x w1 ⟨rfl, hb⟩
        have HS1 := Lib.hid (HS0.out.below hb HS0.out.lt)
        have HB1 := Lib.hid (HB0.out.trans (hb.mono HB0.out.size))
        clear hb hw0 s0 s1 s2 s3
        have s0 : w1.cell? ⟨w.heap.size, 0, none⟩ = some (.int .i64 q) := HS1.out.cell 0
        have s1 : w1.cell? ⟨w.heap.size, 1, none⟩ = some (.int .i64 e) := HS1.out.cell 1
        have s2 : w1.cell? ⟨w.heap.size, 2, none⟩ = some (.int .i64 d) := HS1.out.cell 2
        have s3 : w1.cell? ⟨w.heap.size, 3, none⟩ = some (.bool c) := HS1.out.cell 3
        have hs1 := HS1.out.lt
        go_wp2_with fail
        refine (HC.out _).mono ?_
        rintro x w2 ⟨rfl, hb⟩
        have HB2 := Lib.hid ((HB1.out.alloc HB1.out.size (.cells #[.int .i64 0, .int .i64 0, .int .i64 0, .bool false] 23)).trans (hb.mono (HB1.out.alloc HB1.out.size (.cells #[.int .i64 0, .int .i64 0, .int .i64 0, .bool false] 23)).size))
        have HS2 := Lib.hid ((HS1.out.alloc (.cells #[.int .i64 0, .int .i64 0, .int .i64 0, .bool false] 23)).below hb (HS1.out.alloc (.cells #[.int .i64 0, .int .i64 0, .int .i64 0, .bool false] 23)).lt)
        have HA2 := Lib.hid ((show Box (w1.alloc (.cells #[.int .i64 0, .int .i64 0, .int .i64 0, .bool false] 23)) w1.heap.size #[.int .i64 0, .int .i64 0, .int .i64 0, .bool false] 23 from heap_alloc_new w1 _).below hb (show Box (w1.alloc (.cells #[.int .i64 0, .int .i64 0, .int .i64 0, .bool false] 23)) w1.heap.size #[.int .i64 0, .int .i64 0, .int .i64 0, .bool false] 23 from heap_alloc_new w1 _).lt)
        clear hb s0 s1 s2 s3
        have s0 : w2.cell? ⟨w.heap.size, 0, none⟩ = some (.int .i64 q) := HS2.out.cell 0
        have s1 : w2.cell? ⟨w.heap.size, 1, none⟩ = some (.int .i64 e) := HS2.out.cell 1
        have s2 : w2.cell? ⟨w.heap.size, 2, none⟩ = some (.int .i64 d) := HS2.out.cell 2
        have s3 : w2.cell? ⟨w.heap.size, 3, none⟩ = some (.bool c) := HS2.out.cell 3
        have a0 : w2.cell? ⟨w1.heap.size, 0, none⟩ = some (.int .i64 0) := HA2.out.cell 0
        have a1 : w2.cell? ⟨w1.heap.size, 1, none⟩ = some (.int .i64 0) := HA2.out.cell 1
        have a2 : w2.cell? ⟨w1.heap.size, 2, none⟩ = some (.int .i64 0) := HA2.out.cell 2
        have a3 : w2.cell? ⟨w1.heap.size, 3, none⟩ = some (.bool false) := HA2.out.cell 3
        have hs2 := HS2.out.lt
        have ha2 := HA2.out.lt
        clear HS0 HB0 HS1 HB1 HD HC
        obtain ⟨w5, hw5⟩ : ∃ w5, ((w2.alloc (.cells #[.int .i64 (q + 1), .int .i64 e2, .int .i64 d2, .bool true] 23)).alloc (.cells #[.int .i64 1, .int .i64 e, .int .i64 0, .bool false] 23)).alloc (.cells #[.int .i64 1, .int .i64 e2, .int .i64 d2, .bool true] 23) = w5 := ⟨_, rfl⟩
        have HS5 : Hid (Box w5 w.heap.size #[.int .i64 q, .int .i64 e, .int .i64 d, .bool c] 23) := by rw [← hw5]; exact ((HS2.out.alloc _).alloc _).alloc _
        have HA5 : Hid (Box w5 w1.heap.size #[.int .i64 0, .int .i64 0, .int .i64 0, .bool false] 23) := by rw [← hw5]; exact ((HA2.out.alloc _).alloc _).alloc _
        have HB5 : Hid (Box w5 w2.heap.size #[.int .i64 (q + 1), .int .i64 e2, .int .i64 d2, .bool true] 23) := by rw [← hw5]; exact ((show Box (w2.alloc (.cells #[.int .i64 (q + 1), .int .i64 e2, .int .i64 d2, .bool true] 23)) w2.heap.size #[.int .i64 (q + 1), .int .i64 e2, .int .i64 d2, .bool true] 23 from heap_alloc_new w2 _).alloc _).alloc _
        have HX5 : Hid (Box w5 (w2.heap.size + 1) #[.int .i64 1, .int .i64 e, .int .i64 0, .bool false] 23) := by rw [← hw5]; exact (show Box ((w2.alloc (.cells #[.int .i64 (q + 1), .int .i64 e2, .int .i64 d2, .bool true] 23)).alloc (.cells #[.int .i64 1, .int .i64 e, .int .i64 0, .bool false] 23)) (w2.heap.size + 1) #[.int .i64 1, .int .i64 e, .int .i64 0, .bool false] 23 by have := heap_alloc_new (w2.alloc (.cells #[.int .i64 (q + 1), .int .i64 e2, .int .i64 d2, .bool true] 23)) (.cells #[.int .i64 1, .int .i64 e, .int .i64 0, .bool false] 23); rw [show (w2.alloc (.cells #[.int .i64 (q + 1), .int .i64 e2, .int .i64 d2, .bool true] 23)).heap.size = w2.heap.size + 1 by simp] at this; exact this).alloc _
        have HY5 : Hid (Box w5 (w2.heap.size + 1 + 1) #[.int .i64 1, .int .i64 e2, .int .i64 d2, .bool true] 23) := by rw [← hw5]; have := heap_alloc_new ((w2.alloc (.cells #[.int .i64 (q + 1), .int .i64 e2, .int .i64 d2, .bool true] 23)).alloc (.cells #[.int .i64 1, .int .i64 e, .int .i64 0, .bool false] 23)) (.cells #[.int .i64 1, .int .i64 e2, .int .i64 d2, .bool true] 23); rw [show ((w2.alloc (.cells #[.int .i64 (q + 1), .int .i64 e2, .int .i64 d2, .bool true] 23)).alloc (.cells #[.int .i64 1, .int .i64 e, .int .i64 0, .bool false] 23)).heap.size = w2.heap.size + 1 + 1 by simp] at this; exact this
        have HZ5 : Hid (Below w.heap.size w w5) := by rw [← hw5]; exact (((HB2.out.alloc HB2.out.size _).alloc (HB2.out.alloc HB2.out.size _).size _).alloc ((HB2.out.alloc HB2.out.size _).alloc (HB2.out.alloc HB2.out.size _).size _).size _)
        have t0 : w5.cell? ⟨w.heap.size, 0, none⟩ = some (.int .i64 q) := HS5.out.cell 0
        have t1 : w5.cell? ⟨w.heap.size, 1, none⟩ = some (.int .i64 e) := HS5.out.cell 1
        have t2 : w5.cell? ⟨w.heap.size, 2, none⟩ = some (.int .i64 d) := HS5.out.cell 2
        have t3 : w5.cell? ⟨w.heap.size, 3, none⟩ = some (.bool c) := HS5.out.cell 3
        go_wp2_with (first | (go_at_call 9; refine (HR1.out _).mono ?_; clear HR1; rintro x w6 ⟨rfl, hw⟩; have HS6 : Hid (Box w6 w.heap.size #[.int .i64 q, .int .i64 e, .int .i64 d, .bool c] 23) := (by rw [← hw]; exact HS5.out.alloc _); have HA6 : Hid (Box w6 w1.heap.size #[.int .i64 0, .int .i64 0, .int .i64 0, .bool false] 23) := (by rw [← hw]; exact HA5.out.alloc _); have HB6 : Hid (Box w6 w2.heap.size #[.int .i64 (q + 1), .int .i64 e2, .int .i64 d2, .bool true] 23) := (by rw [← hw]; exact HB5.out.alloc _); have HX6 : Hid (Box w6 (w2.heap.size + 1) #[.int .i64 1, .int .i64 e, .int .i64 0, .bool false] 23) := (by rw [← hw]; exact HX5.out.alloc _); have HY6 : Hid (Box w6 (w2.heap.size + 1 + 1) #[.int .i64 1, .int .i64 e2, .int .i64 d2, .bool true] 23) := (by rw [← hw]; exact HY5.out.alloc _); have HZ6 : Hid (Below w.heap.size w w6) := (by rw [← hw]; exact HZ5.out.alloc HZ5.out.size _); clear hw; have ks0 : w6.cell? ⟨w.heap.size, 0, none⟩ = some (.int .i64 q) := HS6.out.cell 0; have kx0 : w6.cell? ⟨w2.heap.size + 1, 0, none⟩ = some (.int .i64 1) := HX6.out.cell 0; have kx1 : w6.cell? ⟨w2.heap.size + 1, 1, none⟩ = some (.int .i64 e) := HX6.out.cell 1; have kx2 : w6.cell? ⟨w2.heap.size + 1, 2, none⟩ = some (.int .i64 0) := HX6.out.cell 2; have kx3 : w6.cell? ⟨w2.heap.size + 1, 3, none⟩ = some (.bool false) := HX6.out.cell 3) | (go_at_call 9; refine (HR2.out _).mono ?_; clear HR2; rintro x w7 ⟨rfl, hw⟩; have HS7 : Hid (Box w7 w.heap.size #[.int .i64 q, .int .i64 e, .int .i64 d, .bool c] 23) := (by rw [← hw]; exact HS6.out.alloc _); have HA7 : Hid (Box w7 w1.heap.size #[.int .i64 0, .int .i64 0, .int .i64 0, .bool false] 23) := (by rw [← hw]; exact HA6.out.alloc _); have HB7 : Hid (Box w7 w2.heap.size #[.int .i64 (q + 1), .int .i64 e2, .int .i64 d2, .bool true] 23) := (by rw [← hw]; exact HB6.out.alloc _); have HX7 : Hid (Box w7 (w2.heap.size + 1) #[.int .i64 1, .int .i64 e, .int .i64 0, .bool false] 23) := (by rw [← hw]; exact HX6.out.alloc _); have HY7 : Hid (Box w7 (w2.heap.size + 1 + 1) #[.int .i64 1, .int .i64 e2, .int .i64 d2, .bool true] 23) := (by rw [← hw]; exact HY6.out.alloc _); have HZ7 : Hid (Below w.heap.size w w7) := (by rw [← hw]; exact HZ6.out.alloc HZ6.out.size _); clear hw; have ly0 : w7.cell? ⟨w2.heap.size + 1 + 1, 0, none⟩ = some (.int .i64 1) := HY7.out.cell 0; have ly1 : w7.cell? ⟨w2.heap.size + 1 + 1, 1, none⟩ = some (.int .i64 e2) := HY7.out.cell 1; have ly2 : w7.cell? ⟨w2.heap.size + 1 + 1, 2, none⟩ = some (.int .i64 d2) := HY7.out.cell 2; have ly3 : w7.cell? ⟨w2.heap.size + 1 + 1, 3, none⟩ = some (.bool true) := HY7.out.cell 3) | (go_at_call 9; refine (HR3.out _).mono ?_; clear HR3; rintro x w8 ⟨rfl, hw⟩; have HS8 : Hid (Box w8 w.heap.size #[.int .i64 q, .int .i64 e, .int .i64 d, .bool c] 23) := (by rw [← hw]; exact HS7.out.alloc _); have HA8 : Hid (Box w8 w1.heap.size #[.int .i64 0, .int .i64 0, .int .i64 0, .bool false] 23) := (by rw [← hw]; exact HA7.out.alloc _); have HB8 : Hid (Box w8 w2.heap.size #[.int .i64 (q + 1), .int .i64 e2, .int .i64 d2, .bool true] 23) := (by rw [← hw]; exact HB7.out.alloc _); have HX8 : Hid (Box w8 (w2.heap.size + 1) #[.int .i64 1, .int .i64 e, .int .i64 0, .bool false] 23) := (by rw [← hw]; exact HX7.out.alloc _); have HY8 : Hid (Box w8 (w2.heap.size + 1 + 1) #[.int .i64 1, .int .i64 e2, .int .i64 d2, .bool true] 23) := (by rw [← hw]; exact HY7.out.alloc _); have HZ8 : Hid (Below w.heap.size w w8) := (by rw [← hw]; exact HZ7.out.alloc HZ7.out.size _); clear hw; have ms0 : w8.cell? ⟨w.heap.size, 0, none⟩ = some (.int .i64 q) := HS8.out.cell 0; have mx0 : w8.cell? ⟨w2.heap.size + 1, 0, none⟩ = some (.int .i64 1) := HX8.out.cell 0; have my0 : w8.cell? ⟨w2.heap.size + 1 + 1, 0, none⟩ = some (.int .i64 1) := HY8.out.cell 0; have fx := frozen_of_row w8 (w2.heap.size + 1) 0 _ _ HX8.out; have fy := frozen_of_row (w8.setCell ⟨w2.heap.size + 1, 0, none⟩ (.int .i64 (q + 1))) (w2.heap.size + 1 + 1) 0 _ _ (HY8.out.set_other (.int .i64 (q + 1)) (by omega)); have cy : (w8.setCell ⟨w2.heap.size + 1, 0, none⟩ (.int .i64 (q + 1))).cell? ⟨w2.heap.size + 1 + 1, 0, none⟩ = some (.int .i64 1) := (HY8.out.set_other (.int .i64 (q + 1)) (by omega)).cell 0; have cs : (w8.setCell ⟨w2.heap.size + 1, 0, none⟩ (.int .i64 (q + 1))).cell? ⟨w.heap.size, 0, none⟩ = some (.int .i64 q) := (HS8.out.set_other (.int .i64 (q + 1)) (by omega)).cell 0; obtain ⟨w9, hw9⟩ : ∃ w9, ((w8.setCell ⟨w2.heap.size + 1, 0, none⟩ (.int .i64 (q + 1))).setCell ⟨w2.heap.size + 1 + 1, 0, none⟩ (.int .i64 (q + 1))) = w9 := ⟨_, rfl⟩; have HA9 : Hid (Box w9 w1.heap.size #[.int .i64 0, .int .i64 0, .int .i64 0, .bool false] 23) := (by rw [← hw9]; exact (HA8.out.set_other _ (by omega)).set_other _ (by omega)); have HB9 : Hid (Box w9 w2.heap.size #[.int .i64 (q + 1), .int .i64 e2, .int .i64 d2, .bool true] 23) := (by rw [← hw9]; exact (HB8.out.set_other _ (by omega)).set_other _ (by omega)); have HX9 : Hid (Box w9 (w2.heap.size + 1) #[.int .i64 (q + 1), .int .i64 e, .int .i64 0, .bool false] 23) := (by rw [← hw9]; exact (HX8.out.set (.int .i64 (q + 1))).set_other _ (by omega)); have HY9 : Hid (Box w9 (w2.heap.size + 1 + 1) #[.int .i64 (q + 1), .int .i64 e2, .int .i64 d2, .bool true] 23) := (by rw [← hw9]; exact (HY8.out.set_other _ (by omega)).set (.int .i64 (q + 1))); have HZ9 : Hid (Below w.heap.size w w9) := (by rw [← hw9]; exact (HZ8.out.setCell (p := ⟨w2.heap.size + 1, 0, none⟩) (by show w.heap.size ≤ w2.heap.size + 1; omega) _).setCell (p := ⟨w2.heap.size + 1 + 1, 0, none⟩) (by show w.heap.size ≤ w2.heap.size + 1 + 1; omega) _); have na0 : w9.cell? ⟨w1.heap.size, 0, none⟩ = some (.int .i64 0) := HA9.out.cell 0; have na1 : w9.cell? ⟨w1.heap.size, 1, none⟩ = some (.int .i64 0) := HA9.out.cell 1; have na2 : w9.cell? ⟨w1.heap.size, 2, none⟩ = some (.int .i64 0) := HA9.out.cell 2; have na3 : w9.cell? ⟨w1.heap.size, 3, none⟩ = some (.bool false) := HA9.out.cell 3; have nb0 : w9.cell? ⟨w2.heap.size, 0, none⟩ = some (.int .i64 (q + 1)) := HB9.out.cell 0; have nb1 : w9.cell? ⟨w2.heap.size, 1, none⟩ = some (.int .i64 e2) := HB9.out.cell 1; have nb2 : w9.cell? ⟨w2.heap.size, 2, none⟩ = some (.int .i64 d2) := HB9.out.cell 2; have nb3 : w9.cell? ⟨w2.heap.size, 3, none⟩ = some (.bool true) := HB9.out.cell 3; have nx0 : w9.cell? ⟨w2.heap.size + 1, 0, none⟩ = some (.int .i64 (q + 1)) := HX9.out.cell 0; have nx1 : w9.cell? ⟨w2.heap.size + 1, 1, none⟩ = some (.int .i64 e) := HX9.out.cell 1; have nx2 : w9.cell? ⟨w2.heap.size + 1, 2, none⟩ = some (.int .i64 0) := HX9.out.cell 2; have nx3 : w9.cell? ⟨w2.heap.size + 1, 3, none⟩ = some (.bool false) := HX9.out.cell 3; have ny0 : w9.cell? ⟨w2.heap.size + 1 + 1, 0, none⟩ = some (.int .i64 (q + 1)) := HY9.out.cell 0; have ny1 : w9.cell? ⟨w2.heap.size + 1 + 1, 1, none⟩ = some (.int .i64 e2) := HY9.out.cell 1; have ny2 : w9.cell? ⟨w2.heap.size + 1 + 1, 2, none⟩ = some (.int .i64 d2) := HY9.out.cell 2; have ny3 : w9.cell? ⟨w2.heap.size + 1 + 1, 3, none⟩ = some (.bool true) := HY9.out.cell 3) | (go_at_call 12; refine (slLives_any _).mono ?_; rintro x w16 ⟨rfl, hb⟩; have HB9 := Lib.hid (HZ9.out.trans (hb.mono HZ9.out.size)); clear hb))
        go_ret
        exact ⟨rfl, HB9.out⟩
    | true =>
      rw [h1] at hb1 HR2
      clear h1
      cases h2 : slB 1 e2 d2 true with
      | false =>
        rw [h2] at hb2 HR3
        clear h2
        have HD := Lib.hid (fun W => dirty_any q e d c W)
        have HC := Lib.hid (fun W => clean_any q e d c e2 d2 W)
        rw [show nextB q e d c e 0 false = true from hb1, show nextV q e d c e 0 false = .agg #[.int .i64 (q + 1), .int .i64 e, .int .i64 0, .bool false] from (by unfold nextV; rw [hb1]; rfl)] at HD
        rw [show nextB q e d c e2 d2 true = false from hb2, show nextV q e d c e2 d2 true = .agg #[.int .i64 0, .int .i64 0, .int .i64 0, .bool false] from (by unfold nextV; rw [hb2]; rfl)] at HC
        clear hb1 hb2
        obtain ⟨w0, hw0⟩ : ∃ w0, w.alloc (.cells #[.int .i64 q, .int .i64 e, .int .i64 d, .bool c] 23) = w0 := ⟨_, rfl⟩
        have HS0 : Hid (Box w0 w.heap.size #[.int .i64 q, .int .i64 e, .int .i64 d, .bool c] 23) := by rw [← hw0]; exact heap_alloc_new w _
        have HB0 : Hid (Below w.heap.size w w0) := by rw [← hw0]; exact (Below.refl w.heap.size w).alloc (Nat.le_refl _) _
        have s0 : w0.cell? ⟨w.heap.size, 0, none⟩ = some (.int .i64 q) := HS0.out.cell 0
        have s1 : w0.cell? ⟨w.heap.size, 1, none⟩ = some (.int .i64 e) := HS0.out.cell 1
        have s2 : w0.cell? ⟨w.heap.size, 2, none⟩ = some (.int .i64 d) := HS0.out.cell 2
        have s3 : w0.cell? ⟨w.heap.size, 3, none⟩ = some (.bool c) := HS0.out.cell 3
        go_enter Try.func4, Try.ntmps4
        go_wp2_with fail
        refine (HD.out _).mono ?_
        rintro x w1 ⟨rfl, hb⟩
        have HS1 := Lib.hid (HS0.out.below hb HS0.out.lt)
        have HB1 := Lib.hid (HB0.out.trans (hb.mono HB0.out.size))
        clear hb hw0 s0 s1 s2 s3
        have s0 : w1.cell? ⟨w.heap.size, 0, none⟩ = some (.int .i64 q) := HS1.out.cell 0
        have s1 : w1.cell? ⟨w.heap.size, 1, none⟩ = some (.int .i64 e) := HS1.out.cell 1
        have s2 : w1.cell? ⟨w.heap.size, 2, none⟩ = some (.int .i64 d) := HS1.out.cell 2
        have s3 : w1.cell? ⟨w.heap.size, 3, none⟩ = some (.bool c) := HS1.out.cell 3
        have hs1 := HS1.out.lt
        go_wp2_with fail
        refine (HC.out _).mono ?_
        rintro x w2 ⟨rfl, hb⟩
        have HB2 := Lib.hid ((HB1.out.alloc HB1.out.size (.cells #[.int .i64 (q + 1), .int .i64 e, .int .i64 0, .bool false] 23)).trans (hb.mono (HB1.out.alloc HB1.out.size (.cells #[.int .i64 (q + 1), .int .i64 e, .int .i64 0, .bool false] 23)).size))
        have HS2 := Lib.hid ((HS1.out.alloc (.cells #[.int .i64 (q + 1), .int .i64 e, .int .i64 0, .bool false] 23)).below hb (HS1.out.alloc (.cells #[.int .i64 (q + 1), .int .i64 e, .int .i64 0, .bool false] 23)).lt)
        have HA2 := Lib.hid ((show Box (w1.alloc (.cells #[.int .i64 (q + 1), .int .i64 e, .int .i64 0, .bool false] 23)) w1.heap.size #[.int .i64 (q + 1), .int .i64 e, .int .i64 0, .bool false] 23 from heap_alloc_new w1 _).below hb (show Box (w1.alloc (.cells #[.int .i64 (q + 1), .int .i64 e, .int .i64 0, .bool false] 23)) w1.heap.size #[.int .i64 (q + 1), .int .i64 e, .int .i64 0, .bool false] 23 from heap_alloc_new w1 _).lt)
        clear hb s0 s1 s2 s3
        have s0 : w2.cell? ⟨w.heap.size, 0, none⟩ = some (.int .i64 q) := HS2.out.cell 0
        have s1 : w2.cell? ⟨w.heap.size, 1, none⟩ = some (.int .i64 e) := HS2.out.cell 1
        have s2 : w2.cell? ⟨w.heap.size, 2, none⟩ = some (.int .i64 d) := HS2.out.cell 2
        have s3 : w2.cell? ⟨w.heap.size, 3, none⟩ = some (.bool c) := HS2.out.cell 3
        have a0 : w2.cell? ⟨w1.heap.size, 0, none⟩ = some (.int .i64 (q + 1)) := HA2.out.cell 0
        have a1 : w2.cell? ⟨w1.heap.size, 1, none⟩ = some (.int .i64 e) := HA2.out.cell 1
        have a2 : w2.cell? ⟨w1.heap.size, 2, none⟩ = some (.int .i64 0) := HA2.out.cell 2
        have a3 : w2.cell? ⟨w1.heap.size, 3, none⟩ = some (.bool false) := HA2.out.cell 3
        have hs2 := HS2.out.lt
        have ha2 := HA2.out.lt
        clear HS0 HB0 HS1 HB1 HD HC
        obtain ⟨w5, hw5⟩ : ∃ w5, ((w2.alloc (.cells #[.int .i64 0, .int .i64 0, .int .i64 0, .bool false] 23)).alloc (.cells #[.int .i64 1, .int .i64 e, .int .i64 0, .bool false] 23)).alloc (.cells #[.int .i64 1, .int .i64 e2, .int .i64 d2, .bool true] 23) = w5 := ⟨_, rfl⟩
        have HS5 : Hid (Box w5 w.heap.size #[.int .i64 q, .int .i64 e, .int .i64 d, .bool c] 23) := by rw [← hw5]; exact ((HS2.out.alloc _).alloc _).alloc _
        have HA5 : Hid (Box w5 w1.heap.size #[.int .i64 (q + 1), .int .i64 e, .int .i64 0, .bool false] 23) := by rw [← hw5]; exact ((HA2.out.alloc _).alloc _).alloc _
        have HB5 : Hid (Box w5 w2.heap.size #[.int .i64 0, .int .i64 0, .int .i64 0, .bool false] 23) := by rw [← hw5]; exact ((show Box (w2.alloc (.cells #[.int .i64 0, .int .i64 0, .int .i64 0, .bool false] 23)) w2.heap.size #[.int .i64 0, .int .i64 0, .int .i64 0, .bool false] 23 from heap_alloc_new w2 _).alloc _).alloc _
        have HX5 : Hid (Box w5 (w2.heap.size + 1) #[.int .i64 1, .int .i64 e, .int .i64 0, .bool false] 23) := by rw [← hw5]; exact (show Box ((w2.alloc (.cells #[.int .i64 0, .int .i64 0, .int .i64 0, .bool false] 23)).alloc (.cells #[.int .i64 1, .int .i64 e, .int .i64 0, .bool false] 23)) (w2.heap.size + 1) #[.int .i64 1, .int .i64 e, .int .i64 0, .bool false] 23 by have := heap_alloc_new (w2.alloc (.cells #[.int .i64 0, .int .i64 0, .int .i64 0, .bool false] 23)) (.cells #[.int .i64 1, .int .i64 e, .int .i64 0, .bool false] 23); rw [show (w2.alloc (.cells #[.int .i64 0, .int .i64 0, .int .i64 0, .bool false] 23)).heap.size = w2.heap.size + 1 by simp] at this; exact this).alloc _
        have HY5 : Hid (Box w5 (w2.heap.size + 1 + 1) #[.int .i64 1, .int .i64 e2, .int .i64 d2, .bool true] 23) := by rw [← hw5]; have := heap_alloc_new ((w2.alloc (.cells #[.int .i64 0, .int .i64 0, .int .i64 0, .bool false] 23)).alloc (.cells #[.int .i64 1, .int .i64 e, .int .i64 0, .bool false] 23)) (.cells #[.int .i64 1, .int .i64 e2, .int .i64 d2, .bool true] 23); rw [show ((w2.alloc (.cells #[.int .i64 0, .int .i64 0, .int .i64 0, .bool false] 23)).alloc (.cells #[.int .i64 1, .int .i64 e, .int .i64 0, .bool false] 23)).heap.size = w2.heap.size + 1 + 1 by simp] at this; exact this
        have HZ5 : Hid (Below w.heap.size w w5) := by rw [← hw5]; exact (((HB2.out.alloc HB2.out.size _).alloc (HB2.out.alloc HB2.out.size _).size _).alloc ((HB2.out.alloc HB2.out.size _).alloc (HB2.out.alloc HB2.out.size _).size _).size _)
        have t0 : w5.cell? ⟨w.heap.size, 0, none⟩ = some (.int .i64 q) := HS5.out.cell 0
        have t1 : w5.cell? ⟨w.heap.size, 1, none⟩ = some (.int .i64 e) := HS5.out.cell 1
        have t2 : w5.cell? ⟨w.heap.size, 2, none⟩ = some (.int .i64 d) := HS5.out.cell 2
        have t3 : w5.cell? ⟨w.heap.size, 3, none⟩ = some (.bool c) := HS5.out.cell 3
        go_wp2_with (first | (go_at_call 9; refine (HR1.out _).mono ?_; clear HR1; rintro x w6 ⟨rfl, hw⟩; have HS6 : Hid (Box w6 w.heap.size #[.int .i64 q, .int .i64 e, .int .i64 d, .bool c] 23) := (by rw [← hw]; exact HS5.out.alloc _); have HA6 : Hid (Box w6 w1.heap.size #[.int .i64 (q + 1), .int .i64 e, .int .i64 0, .bool false] 23) := (by rw [← hw]; exact HA5.out.alloc _); have HB6 : Hid (Box w6 w2.heap.size #[.int .i64 0, .int .i64 0, .int .i64 0, .bool false] 23) := (by rw [← hw]; exact HB5.out.alloc _); have HX6 : Hid (Box w6 (w2.heap.size + 1) #[.int .i64 1, .int .i64 e, .int .i64 0, .bool false] 23) := (by rw [← hw]; exact HX5.out.alloc _); have HY6 : Hid (Box w6 (w2.heap.size + 1 + 1) #[.int .i64 1, .int .i64 e2, .int .i64 d2, .bool true] 23) := (by rw [← hw]; exact HY5.out.alloc _); have HZ6 : Hid (Below w.heap.size w w6) := (by rw [← hw]; exact HZ5.out.alloc HZ5.out.size _); clear hw; have ks0 : w6.cell? ⟨w.heap.size, 0, none⟩ = some (.int .i64 q) := HS6.out.cell 0; have kx0 : w6.cell? ⟨w2.heap.size + 1, 0, none⟩ = some (.int .i64 1) := HX6.out.cell 0; have kx1 : w6.cell? ⟨w2.heap.size + 1, 1, none⟩ = some (.int .i64 e) := HX6.out.cell 1; have kx2 : w6.cell? ⟨w2.heap.size + 1, 2, none⟩ = some (.int .i64 0) := HX6.out.cell 2; have kx3 : w6.cell? ⟨w2.heap.size + 1, 3, none⟩ = some (.bool false) := HX6.out.cell 3) | (go_at_call 9; refine (HR2.out _).mono ?_; clear HR2; rintro x w7 ⟨rfl, hw⟩; have HS7 : Hid (Box w7 w.heap.size #[.int .i64 q, .int .i64 e, .int .i64 d, .bool c] 23) := (by rw [← hw]; exact HS6.out.alloc _); have HA7 : Hid (Box w7 w1.heap.size #[.int .i64 (q + 1), .int .i64 e, .int .i64 0, .bool false] 23) := (by rw [← hw]; exact HA6.out.alloc _); have HB7 : Hid (Box w7 w2.heap.size #[.int .i64 0, .int .i64 0, .int .i64 0, .bool false] 23) := (by rw [← hw]; exact HB6.out.alloc _); have HX7 : Hid (Box w7 (w2.heap.size + 1) #[.int .i64 1, .int .i64 e, .int .i64 0, .bool false] 23) := (by rw [← hw]; exact HX6.out.alloc _); have HY7 : Hid (Box w7 (w2.heap.size + 1 + 1) #[.int .i64 1, .int .i64 e2, .int .i64 d2, .bool true] 23) := (by rw [← hw]; exact HY6.out.alloc _); have HZ7 : Hid (Below w.heap.size w w7) := (by rw [← hw]; exact HZ6.out.alloc HZ6.out.size _); clear hw; have ly0 : w7.cell? ⟨w2.heap.size + 1 + 1, 0, none⟩ = some (.int .i64 1) := HY7.out.cell 0; have ly1 : w7.cell? ⟨w2.heap.size + 1 + 1, 1, none⟩ = some (.int .i64 e2) := HY7.out.cell 1; have ly2 : w7.cell? ⟨w2.heap.size + 1 + 1, 2, none⟩ = some (.int .i64 d2) := HY7.out.cell 2; have ly3 : w7.cell? ⟨w2.heap.size + 1 + 1, 3, none⟩ = some (.bool true) := HY7.out.cell 3) | (go_at_call 9; refine (HR3.out _).mono ?_; clear HR3; rintro x w8 ⟨rfl, hw⟩; have HS8 : Hid (Box w8 w.heap.size #[.int .i64 q, .int .i64 e, .int .i64 d, .bool c] 23) := (by rw [← hw]; exact HS7.out.alloc _); have HA8 : Hid (Box w8 w1.heap.size #[.int .i64 (q + 1), .int .i64 e, .int .i64 0, .bool false] 23) := (by rw [← hw]; exact HA7.out.alloc _); have HB8 : Hid (Box w8 w2.heap.size #[.int .i64 0, .int .i64 0, .int .i64 0, .bool false] 23) := (by rw [← hw]; exact HB7.out.alloc _); have HX8 : Hid (Box w8 (w2.heap.size + 1) #[.int .i64 1, .int .i64 e, .int .i64 0, .bool false] 23) := (by rw [← hw]; exact HX7.out.alloc _); have HY8 : Hid (Box w8 (w2.heap.size + 1 + 1) #[.int .i64 1, .int .i64 e2, .int .i64 d2, .bool true] 23) := (by rw [← hw]; exact HY7.out.alloc _); have HZ8 : Hid (Below w.heap.size w w8) := (by rw [← hw]; exact HZ7.out.alloc HZ7.out.size _); clear hw; have ms0 : w8.cell? ⟨w.heap.size, 0, none⟩ = some (.int .i64 q) := HS8.out.cell 0; have mx0 : w8.cell? ⟨w2.heap.size + 1, 0, none⟩ = some (.int .i64 1) := HX8.out.cell 0; have my0 : w8.cell? ⟨w2.heap.size + 1 + 1, 0, none⟩ = some (.int .i64 1) := HY8.out.cell 0; have fx := frozen_of_row w8 (w2.heap.size + 1) 0 _ _ HX8.out; have fy := frozen_of_row (w8.setCell ⟨w2.heap.size + 1, 0, none⟩ (.int .i64 (q + 1))) (w2.heap.size + 1 + 1) 0 _ _ (HY8.out.set_other (.int .i64 (q + 1)) (by omega)); have cy : (w8.setCell ⟨w2.heap.size + 1, 0, none⟩ (.int .i64 (q + 1))).cell? ⟨w2.heap.size + 1 + 1, 0, none⟩ = some (.int .i64 1) := (HY8.out.set_other (.int .i64 (q + 1)) (by omega)).cell 0; have cs : (w8.setCell ⟨w2.heap.size + 1, 0, none⟩ (.int .i64 (q + 1))).cell? ⟨w.heap.size, 0, none⟩ = some (.int .i64 q) := (HS8.out.set_other (.int .i64 (q + 1)) (by omega)).cell 0; obtain ⟨w9, hw9⟩ : ∃ w9, ((w8.setCell ⟨w2.heap.size + 1, 0, none⟩ (.int .i64 (q + 1))).setCell ⟨w2.heap.size + 1 + 1, 0, none⟩ (.int .i64 (q + 1))) = w9 := ⟨_, rfl⟩; have HA9 : Hid (Box w9 w1.heap.size #[.int .i64 (q + 1), .int .i64 e, .int .i64 0, .bool false] 23) := (by rw [← hw9]; exact (HA8.out.set_other _ (by omega)).set_other _ (by omega)); have HB9 : Hid (Box w9 w2.heap.size #[.int .i64 0, .int .i64 0, .int .i64 0, .bool false] 23) := (by rw [← hw9]; exact (HB8.out.set_other _ (by omega)).set_other _ (by omega)); have HX9 : Hid (Box w9 (w2.heap.size + 1) #[.int .i64 (q + 1), .int .i64 e, .int .i64 0, .bool false] 23) := (by rw [← hw9]; exact (HX8.out.set (.int .i64 (q + 1))).set_other _ (by omega)); have HY9 : Hid (Box w9 (w2.heap.size + 1 + 1) #[.int .i64 (q + 1), .int .i64 e2, .int .i64 d2, .bool true] 23) := (by rw [← hw9]; exact (HY8.out.set_other _ (by omega)).set (.int .i64 (q + 1))); have HZ9 : Hid (Below w.heap.size w w9) := (by rw [← hw9]; exact (HZ8.out.setCell (p := ⟨w2.heap.size + 1, 0, none⟩) (by show w.heap.size ≤ w2.heap.size + 1; omega) _).setCell (p := ⟨w2.heap.size + 1 + 1, 0, none⟩) (by show w.heap.size ≤ w2.heap.size + 1 + 1; omega) _); have na0 : w9.cell? ⟨w1.heap.size, 0, none⟩ = some (.int .i64 (q + 1)) := HA9.out.cell 0; have na1 : w9.cell? ⟨w1.heap.size, 1, none⟩ = some (.int .i64 e) := HA9.out.cell 1; have na2 : w9.cell? ⟨w1.heap.size, 2, none⟩ = some (.int .i64 0) := HA9.out.cell 2; have na3 : w9.cell? ⟨w1.heap.size, 3, none⟩ = some (.bool false) := HA9.out.cell 3; have nb0 : w9.cell? ⟨w2.heap.size, 0, none⟩ = some (.int .i64 0) := HB9.out.cell 0; have nb1 : w9.cell? ⟨w2.heap.size, 1, none⟩ = some (.int .i64 0) := HB9.out.cell 1; have nb2 : w9.cell? ⟨w2.heap.size, 2, none⟩ = some (.int .i64 0) := HB9.out.cell 2; have nb3 : w9.cell? ⟨w2.heap.size, 3, none⟩ = some (.bool false) := HB9.out.cell 3; have nx0 : w9.cell? ⟨w2.heap.size + 1, 0, none⟩ = some (.int .i64 (q + 1)) := HX9.out.cell 0; have nx1 : w9.cell? ⟨w2.heap.size + 1, 1, none⟩ = some (.int .i64 e) := HX9.out.cell 1; have nx2 : w9.cell? ⟨w2.heap.size + 1, 2, none⟩ = some (.int .i64 0) := HX9.out.cell 2; have nx3 : w9.cell? ⟨w2.heap.size + 1, 3, none⟩ = some (.bool false) := HX9.out.cell 3; have ny0 : w9.cell? ⟨w2.heap.size + 1 + 1, 0, none⟩ = some (.int .i64 (q + 1)) := HY9.out.cell 0; have ny1 : w9.cell? ⟨w2.heap.size + 1 + 1, 1, none⟩ = some (.int .i64 e2) := HY9.out.cell 1; have ny2 : w9.cell? ⟨w2.heap.size + 1 + 1, 2, none⟩ = some (.int .i64 d2) := HY9.out.cell 2; have ny3 : w9.cell? ⟨w2.heap.size + 1 + 1, 3, none⟩ = some (.bool true) := HY9.out.cell 3) | (go_at_call 12; refine (slLives_any _).mono ?_; rintro x w16 ⟨rfl, hb⟩; have HB9 := Lib.hid (HZ9.out.trans (hb.mono HZ9.out.size)); clear hb))
        go_ret
        exact ⟨rfl, HB9.out⟩
      | true =>
        rw [h2] at hb2 HR3
        clear h2
        have HD := Lib.hid (fun W => dirty_any q e d c W)
        have HC := Lib.hid (fun W => clean_any q e d c e2 d2 W)
        rw [show nextB q e d c e 0 false = true from hb1, show nextV q e d c e 0 false = .agg #[.int .i64 (q + 1), .int .i64 e, .int .i64 0, .bool false] from (by unfold nextV; rw [hb1]; rfl)] at HD
        rw [show nextB q e d c e2 d2 true = true from hb2, show nextV q e d c e2 d2 true = .agg #[.int .i64 (q + 1), .int .i64 e2, .int .i64 d2, .bool true] from (by unfold nextV; rw [hb2]; rfl)] at HC
        clear hb1 hb2
        obtain ⟨w0, hw0⟩ : ∃ w0, w.alloc (.cells #[.int .i64 q, .int .i64 e, .int .i64 d, .bool c] 23) = w0 := ⟨_, rfl⟩
        have HS0 : Hid (Box w0 w.heap.size #[.int .i64 q, .int .i64 e, .int .i64 d, .bool c] 23) := by rw [← hw0]; exact heap_alloc_new w _
        have HB0 : Hid (Below w.heap.size w w0) := by rw [← hw0]; exact (Below.refl w.heap.size w).alloc (Nat.le_refl _) _
        have s0 : w0.cell? ⟨w.heap.size, 0, none⟩ = some (.int .i64 q) := HS0.out.cell 0
        have s1 : w0.cell? ⟨w.heap.size, 1, none⟩ = some (.int .i64 e) := HS0.out.cell 1
        have s2 : w0.cell? ⟨w.heap.size, 2, none⟩ = some (.int .i64 d) := HS0.out.cell 2
        have s3 : w0.cell? ⟨w.heap.size, 3, none⟩ = some (.bool c) := HS0.out.cell 3
        go_enter Try.func4, Try.ntmps4
        go_wp2_with fail
        refine (HD.out _).mono ?_
        rintro x w1 ⟨rfl, hb⟩
        have HS1 := Lib.hid (HS0.out.below hb HS0.out.lt)
        have HB1 := Lib.hid (HB0.out.trans (hb.mono HB0.out.size))
        clear hb hw0 s0 s1 s2 s3
        have s0 : w1.cell? ⟨w.heap.size, 0, none⟩ = some (.int .i64 q) := HS1.out.cell 0
        have s1 : w1.cell? ⟨w.heap.size, 1, none⟩ = some (.int .i64 e) := HS1.out.cell 1
        have s2 : w1.cell? ⟨w.heap.size, 2, none⟩ = some (.int .i64 d) := HS1.out.cell 2
        have s3 : w1.cell? ⟨w.heap.size, 3, none⟩ = some (.bool c) := HS1.out.cell 3
        have hs1 := HS1.out.lt
        go_wp2_with fail
        refine (HC.out _).mono ?_
        rintro x w2 ⟨rfl, hb⟩
        have HB2 := Lib.hid ((HB1.out.alloc HB1.out.size (.cells #[.int .i64 (q + 1), .int .i64 e, .int .i64 0, .bool false] 23)).trans (hb.mono (HB1.out.alloc HB1.out.size (.cells #[.int .i64 (q + 1), .int .i64 e, .int .i64 0, .bool false] 23)).size))
        have HS2 := Lib.hid ((HS1.out.alloc (.cells #[.int .i64 (q + 1), .int .i64 e, .int .i64 0, .bool false] 23)).below hb (HS1.out.alloc (.cells #[.int .i64 (q + 1), .int .i64 e, .int .i64 0, .bool false] 23)).lt)
        have HA2 := Lib.hid ((show Box (w1.alloc (.cells #[.int .i64 (q + 1), .int .i64 e, .int .i64 0, .bool false] 23)) w1.heap.size #[.int .i64 (q + 1), .int .i64 e, .int .i64 0, .bool false] 23 from heap_alloc_new w1 _).below hb (show Box (w1.alloc (.cells #[.int .i64 (q + 1), .int .i64 e, .int .i64 0, .bool false] 23)) w1.heap.size #[.int .i64 (q + 1), .int .i64 e, .int .i64 0, .bool false] 23 from heap_alloc_new w1 _).lt)
        clear hb s0 s1 s2 s3
        have s0 : w2.cell? ⟨w.heap.size, 0, none⟩ = some (.int .i64 q) := HS2.out.cell 0
        have s1 : w2.cell? ⟨w.heap.size, 1, none⟩ = some (.int .i64 e) := HS2.out.cell 1
        have s2 : w2.cell? ⟨w.heap.size, 2, none⟩ = some (.int .i64 d) := HS2.out.cell 2
        have s3 : w2.cell? ⟨w.heap.size, 3, none⟩ = some (.bool c) := HS2.out.cell 3
        have a0 : w2.cell? ⟨w1.heap.size, 0, none⟩ = some (.int .i64 (q + 1)) := HA2.out.cell 0
        have a1 : w2.cell? ⟨w1.heap.size, 1, none⟩ = some (.int .i64 e) := HA2.out.cell 1
        have a2 : w2.cell? ⟨w1.heap.size, 2, none⟩ = some (.int .i64 0) := HA2.out.cell 2
        have a3 : w2.cell? ⟨w1.heap.size, 3, none⟩ = some (.bool false) := HA2.out.cell 3
        have hs2 := HS2.out.lt
        have ha2 := HA2.out.lt
        clear HS0 HB0 HS1 HB1 HD HC
        obtain ⟨w5, hw5⟩ : ∃ w5, ((w2.alloc (.cells #[.int .i64 (q + 1), .int .i64 e2, .int .i64 d2, .bool true] 23)).alloc (.cells #[.int .i64 1, .int .i64 e, .int .i64 0, .bool false] 23)).alloc (.cells #[.int .i64 1, .int .i64 e2, .int .i64 d2, .bool true] 23) = w5 := ⟨_, rfl⟩
        have HS5 : Hid (Box w5 w.heap.size #[.int .i64 q, .int .i64 e, .int .i64 d, .bool c] 23) := by rw [← hw5]; exact ((HS2.out.alloc _).alloc _).alloc _
        have HA5 : Hid (Box w5 w1.heap.size #[.int .i64 (q + 1), .int .i64 e, .int .i64 0, .bool false] 23) := by rw [← hw5]; exact ((HA2.out.alloc _).alloc _).alloc _
        have HB5 : Hid (Box w5 w2.heap.size #[.int .i64 (q + 1), .int .i64 e2, .int .i64 d2, .bool true] 23) := by rw [← hw5]; exact ((show Box (w2.alloc (.cells #[.int .i64 (q + 1), .int .i64 e2, .int .i64 d2, .bool true] 23)) w2.heap.size #[.int .i64 (q + 1), .int .i64 e2, .int .i64 d2, .bool true] 23 from heap_alloc_new w2 _).alloc _).alloc _
        have HX5 : Hid (Box w5 (w2.heap.size + 1) #[.int .i64 1, .int .i64 e, .int .i64 0, .bool false] 23) := by rw [← hw5]; exact (show Box ((w2.alloc (.cells #[.int .i64 (q + 1), .int .i64 e2, .int .i64 d2, .bool true] 23)).alloc (.cells #[.int .i64 1, .int .i64 e, .int .i64 0, .bool false] 23)) (w2.heap.size + 1) #[.int .i64 1, .int .i64 e, .int .i64 0, .bool false] 23 by have := heap_alloc_new (w2.alloc (.cells #[.int .i64 (q + 1), .int .i64 e2, .int .i64 d2, .bool true] 23)) (.cells #[.int .i64 1, .int .i64 e, .int .i64 0, .bool false] 23); rw [show (w2.alloc (.cells #[.int .i64 (q + 1), .int .i64 e2, .int .i64 d2, .bool true] 23)).heap.size = w2.heap.size + 1 by simp] at this; exact this).alloc _
        have HY5 : Hid (Box w5 (w2.heap.size + 1 + 1) #[.int .i64 1, .int .i64 e2, .int .i64 d2, .bool true] 23) := by rw [← hw5]; have := heap_alloc_new ((w2.alloc (.cells #[.int .i64 (q + 1), .int .i64 e2, .int .i64 d2, .bool true] 23)).alloc (.cells #[.int .i64 1, .int .i64 e, .int .i64 0, .bool false] 23)) (.cells #[.int .i64 1, .int .i64 e2, .int .i64 d2, .bool true] 23); rw [show ((w2.alloc (.cells #[.int .i64 (q + 1), .int .i64 e2, .int .i64 d2, .bool true] 23)).alloc (.cells #[.int .i64 1, .int .i64 e, .int .i64 0, .bool false] 23)).heap.size = w2.heap.size + 1 + 1 by simp] at this; exact this
        have HZ5 : Hid (Below w.heap.size w w5) := by rw [← hw5]; exact (((HB2.out.alloc HB2.out.size _).alloc (HB2.out.alloc HB2.out.size _).size _).alloc ((HB2.out.alloc HB2.out.size _).alloc (HB2.out.alloc HB2.out.size _).size _).size _)
        have t0 : w5.cell? ⟨w.heap.size, 0, none⟩ = some (.int .i64 q) := HS5.out.cell 0
        have t1 : w5.cell? ⟨w.heap.size, 1, none⟩ = some (.int .i64 e) := HS5.out.cell 1
        have t2 : w5.cell? ⟨w.heap.size, 2, none⟩ = some (.int .i64 d) := HS5.out.cell 2
        have t3 : w5.cell? ⟨w.heap.size, 3, none⟩ = some (.bool c) := HS5.out.cell 3
        go_wp2_with (first | (go_at_call 9; refine (HR1.out _).mono ?_; clear HR1; rintro x w6 ⟨rfl, hw⟩; have HS6 : Hid (Box w6 w.heap.size #[.int .i64 q, .int .i64 e, .int .i64 d, .bool c] 23) := (by rw [← hw]; exact HS5.out.alloc _); have HA6 : Hid (Box w6 w1.heap.size #[.int .i64 (q + 1), .int .i64 e, .int .i64 0, .bool false] 23) := (by rw [← hw]; exact HA5.out.alloc _); have HB6 : Hid (Box w6 w2.heap.size #[.int .i64 (q + 1), .int .i64 e2, .int .i64 d2, .bool true] 23) := (by rw [← hw]; exact HB5.out.alloc _); have HX6 : Hid (Box w6 (w2.heap.size + 1) #[.int .i64 1, .int .i64 e, .int .i64 0, .bool false] 23) := (by rw [← hw]; exact HX5.out.alloc _); have HY6 : Hid (Box w6 (w2.heap.size + 1 + 1) #[.int .i64 1, .int .i64 e2, .int .i64 d2, .bool true] 23) := (by rw [← hw]; exact HY5.out.alloc _); have HZ6 : Hid (Below w.heap.size w w6) := (by rw [← hw]; exact HZ5.out.alloc HZ5.out.size _); clear hw; have ks0 : w6.cell? ⟨w.heap.size, 0, none⟩ = some (.int .i64 q) := HS6.out.cell 0; have kx0 : w6.cell? ⟨w2.heap.size + 1, 0, none⟩ = some (.int .i64 1) := HX6.out.cell 0; have kx1 : w6.cell? ⟨w2.heap.size + 1, 1, none⟩ = some (.int .i64 e) := HX6.out.cell 1; have kx2 : w6.cell? ⟨w2.heap.size + 1, 2, none⟩ = some (.int .i64 0) := HX6.out.cell 2; have kx3 : w6.cell? ⟨w2.heap.size + 1, 3, none⟩ = some (.bool false) := HX6.out.cell 3) | (go_at_call 9; refine (HR2.out _).mono ?_; clear HR2; rintro x w7 ⟨rfl, hw⟩; have HS7 : Hid (Box w7 w.heap.size #[.int .i64 q, .int .i64 e, .int .i64 d, .bool c] 23) := (by rw [← hw]; exact HS6.out.alloc _); have HA7 : Hid (Box w7 w1.heap.size #[.int .i64 (q + 1), .int .i64 e, .int .i64 0, .bool false] 23) := (by rw [← hw]; exact HA6.out.alloc _); have HB7 : Hid (Box w7 w2.heap.size #[.int .i64 (q + 1), .int .i64 e2, .int .i64 d2, .bool true] 23) := (by rw [← hw]; exact HB6.out.alloc _); have HX7 : Hid (Box w7 (w2.heap.size + 1) #[.int .i64 1, .int .i64 e, .int .i64 0, .bool false] 23) := (by rw [← hw]; exact HX6.out.alloc _); have HY7 : Hid (Box w7 (w2.heap.size + 1 + 1) #[.int .i64 1, .int .i64 e2, .int .i64 d2, .bool true] 23) := (by rw [← hw]; exact HY6.out.alloc _); have HZ7 : Hid (Below w.heap.size w w7) := (by rw [← hw]; exact HZ6.out.alloc HZ6.out.size _); clear hw; have ly0 : w7.cell? ⟨w2.heap.size + 1 + 1, 0, none⟩ = some (.int .i64 1) := HY7.out.cell 0; have ly1 : w7.cell? ⟨w2.heap.size + 1 + 1, 1, none⟩ = some (.int .i64 e2) := HY7.out.cell 1; have ly2 : w7.cell? ⟨w2.heap.size + 1 + 1, 2, none⟩ = some (.int .i64 d2) := HY7.out.cell 2; have ly3 : w7.cell? ⟨w2.heap.size + 1 + 1, 3, none⟩ = some (.bool true) := HY7.out.cell 3) | (go_at_call 9; refine (HR3.out _).mono ?_; clear HR3; rintro x w8 ⟨rfl, hw⟩; have HS8 : Hid (Box w8 w.heap.size #[.int .i64 q, .int .i64 e, .int .i64 d, .bool c] 23) := (by rw [← hw]; exact HS7.out.alloc _); have HA8 : Hid (Box w8 w1.heap.size #[.int .i64 (q + 1), .int .i64 e, .int .i64 0, .bool false] 23) := (by rw [← hw]; exact HA7.out.alloc _); have HB8 : Hid (Box w8 w2.heap.size #[.int .i64 (q + 1), .int .i64 e2, .int .i64 d2, .bool true] 23) := (by rw [← hw]; exact HB7.out.alloc _); have HX8 : Hid (Box w8 (w2.heap.size + 1) #[.int .i64 1, .int .i64 e, .int .i64 0, .bool false] 23) := (by rw [← hw]; exact HX7.out.alloc _); have HY8 : Hid (Box w8 (w2.heap.size + 1 + 1) #[.int .i64 1, .int .i64 e2, .int .i64 d2, .bool true] 23) := (by rw [← hw]; exact HY7.out.alloc _); have HZ8 : Hid (Below w.heap.size w w8) := (by rw [← hw]; exact HZ7.out.alloc HZ7.out.size _); clear hw; have ms0 : w8.cell? ⟨w.heap.size, 0, none⟩ = some (.int .i64 q) := HS8.out.cell 0; have mx0 : w8.cell? ⟨w2.heap.size + 1, 0, none⟩ = some (.int .i64 1) := HX8.out.cell 0; have my0 : w8.cell? ⟨w2.heap.size + 1 + 1, 0, none⟩ = some (.int .i64 1) := HY8.out.cell 0; have fx := frozen_of_row w8 (w2.heap.size + 1) 0 _ _ HX8.out; have fy := frozen_of_row (w8.setCell ⟨w2.heap.size + 1, 0, none⟩ (.int .i64 (q + 1))) (w2.heap.size + 1 + 1) 0 _ _ (HY8.out.set_other (.int .i64 (q + 1)) (by omega)); have cy : (w8.setCell ⟨w2.heap.size + 1, 0, none⟩ (.int .i64 (q + 1))).cell? ⟨w2.heap.size + 1 + 1, 0, none⟩ = some (.int .i64 1) := (HY8.out.set_other (.int .i64 (q + 1)) (by omega)).cell 0; have cs : (w8.setCell ⟨w2.heap.size + 1, 0, none⟩ (.int .i64 (q + 1))).cell? ⟨w.heap.size, 0, none⟩ = some (.int .i64 q) := (HS8.out.set_other (.int .i64 (q + 1)) (by omega)).cell 0; obtain ⟨w9, hw9⟩ : ∃ w9, ((w8.setCell ⟨w2.heap.size + 1, 0, none⟩ (.int .i64 (q + 1))).setCell ⟨w2.heap.size + 1 + 1, 0, none⟩ (.int .i64 (q + 1))) = w9 := ⟨_, rfl⟩; have HA9 : Hid (Box w9 w1.heap.size #[.int .i64 (q + 1), .int .i64 e, .int .i64 0, .bool false] 23) := (by rw [← hw9]; exact (HA8.out.set_other _ (by omega)).set_other _ (by omega)); have HB9 : Hid (Box w9 w2.heap.size #[.int .i64 (q + 1), .int .i64 e2, .int .i64 d2, .bool true] 23) := (by rw [← hw9]; exact (HB8.out.set_other _ (by omega)).set_other _ (by omega)); have HX9 : Hid (Box w9 (w2.heap.size + 1) #[.int .i64 (q + 1), .int .i64 e, .int .i64 0, .bool false] 23) := (by rw [← hw9]; exact (HX8.out.set (.int .i64 (q + 1))).set_other _ (by omega)); have HY9 : Hid (Box w9 (w2.heap.size + 1 + 1) #[.int .i64 (q + 1), .int .i64 e2, .int .i64 d2, .bool true] 23) := (by rw [← hw9]; exact (HY8.out.set_other _ (by omega)).set (.int .i64 (q + 1))); have HZ9 : Hid (Below w.heap.size w w9) := (by rw [← hw9]; exact (HZ8.out.setCell (p := ⟨w2.heap.size + 1, 0, none⟩) (by show w.heap.size ≤ w2.heap.size + 1; omega) _).setCell (p := ⟨w2.heap.size + 1 + 1, 0, none⟩) (by show w.heap.size ≤ w2.heap.size + 1 + 1; omega) _); have na0 : w9.cell? ⟨w1.heap.size, 0, none⟩ = some (.int .i64 (q + 1)) := HA9.out.cell 0; have na1 : w9.cell? ⟨w1.heap.size, 1, none⟩ = some (.int .i64 e) := HA9.out.cell 1; have na2 : w9.cell? ⟨w1.heap.size, 2, none⟩ = some (.int .i64 0) := HA9.out.cell 2; have na3 : w9.cell? ⟨w1.heap.size, 3, none⟩ = some (.bool false) := HA9.out.cell 3; have nb0 : w9.cell? ⟨w2.heap.size, 0, none⟩ = some (.int .i64 (q + 1)) := HB9.out.cell 0; have nb1 : w9.cell? ⟨w2.heap.size, 1, none⟩ = some (.int .i64 e2) := HB9.out.cell 1; have nb2 : w9.cell? ⟨w2.heap.size, 2, none⟩ = some (.int .i64 d2) := HB9.out.cell 2; have nb3 : w9.cell? ⟨w2.heap.size, 3, none⟩ = some (.bool true) := HB9.out.cell 3; have nx0 : w9.cell? ⟨w2.heap.size + 1, 0, none⟩ = some (.int .i64 (q + 1)) := HX9.out.cell 0; have nx1 : w9.cell? ⟨w2.heap.size + 1, 1, none⟩ = some (.int .i64 e) := HX9.out.cell 1; have nx2 : w9.cell? ⟨w2.heap.size + 1, 2, none⟩ = some (.int .i64 0) := HX9.out.cell 2; have nx3 : w9.cell? ⟨w2.heap.size + 1, 3, none⟩ = some (.bool false) := HX9.out.cell 3; have ny0 : w9.cell? ⟨w2.heap.size + 1 + 1, 0, none⟩ = some (.int .i64 (q + 1)) := HY9.out.cell 0; have ny1 : w9.cell? ⟨w2.heap.size + 1 + 1, 1, none⟩ = some (.int .i64 e2) := HY9.out.cell 1; have ny2 : w9.cell? ⟨w2.heap.size + 1 + 1, 2, none⟩ = some (.int .i64 d2) := HY9.out.cell 2; have ny3 : w9.cell? ⟨w2.heap.size + 1 + 1, 3, none⟩ = some (.bool true) := HY9.out.cell 3) | (go_at_call 12; refine (slLives_any _).mono ?_; rintro x w16 ⟨rfl, hb⟩; have HB9 := Lib.hid (HZ9.out.trans (hb.mono HZ9.out.size)); clear hb))
        go_ret
        exact ⟨rfl, HB9.out⟩
end Go.Proofs.Ytpokicngpapkcaa
