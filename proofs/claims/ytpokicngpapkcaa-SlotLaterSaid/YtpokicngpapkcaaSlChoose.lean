/- Layer 21: the slot that counts of 1024 bytes. -/
import Derived.Test.YtpokicngpapkcaaSlNexts
namespace Go.Proofs.Ytpokicngpapkcaa
open Go.RowKit CrcP FieldP
attribute [local go_sem ↓] Go.wp_at_zero Go.wp_at_succ

theorem slV_form (bs : List UInt8) : ∃ (q e d : Int) (c : Bool), slV bs = .tuple #[.agg #[.int .i64 q, .int .i64 e, .int .i64 d, .bool c], .int .i64 (slE bs : Nat)] ∧ (slE bs = 0 → q = (slN bs 0 : Nat)) := by
  by_cases h : slE bs = 0
  · rw [slV_good h, h]
    exact ⟨_, _, _, _, rfl, fun _ => rfl⟩
  · rw [slV_bad h]
    exact ⟨_, _, _, _, rfl, fun h0 => absurd h0 h⟩
/-- What Choose tells of 1024 bytes. -/
def chV (bs : List UInt8) : Value :=
  if slE (bs.drop 512) = 0 ∧ (slE (bs.take 512) ≠ 0 ∨ slN (bs.take 512) 0 < slN (bs.drop 512) 0) then slV (bs.drop 512)
  else if slE (bs.take 512) = 0 then slV (bs.take 512) else .tuple #[.agg #[.int .i64 0, .int .i64 0, .int .i64 0, .bool false], .int .i64 3]
theorem Bytes.part {w : World} {B b o : Nat} {bs : List UInt8} (h : Bytes w B (some ⟨b, o, none⟩) bs) (p n : Nat) : Bytes w B (some ⟨b, o + p, none⟩) ((bs.drop p).take n) := fun hp => by
  obtain ⟨b', o', e, hb, hc⟩ := h (by
    rw [byteCells_length] at hp ⊢
    rw [List.length_take, List.length_drop] at hp
    omega)
  injection e with e
  injection e with e1 e2 _
  subst e1 e2
  refine ⟨b, o + p, rfl, hb, fun j u hu => ?_⟩
  have h2 : (byteCells bs)[p + j]? = some u := by
    unfold byteCells at hu ⊢
    rw [List.getElem?_map, List.getElem?_take] at hu
    split at hu
    · rw [List.getElem?_drop] at hu
      rw [List.getElem?_map, hu]
    · simp at hu
  have := hc (p + j) u h2
  rw [← Nat.add_assoc] at this
  exact this

set_option maxRecDepth 100000 in
set_option maxHeartbeats 2000000 in
theorem choose_any (tg : Nat) (b o c : Nat) (bs : List UInt8) (B : Nat) (w : World) (hT : Table w tg) (hl : bs.length = 1024) (hlc : 1024 ≤ c) (hb : Bytes w B (some ⟨b, o, none⟩) bs) (hB : B ≤ w.heap.size) :
    Calls Try.prog 16 #[.pointer (some ⟨tg, 0, none⟩), .slice (some ⟨b, o, none⟩) 1024 c] w fun x w' => x = .returned (chV bs) ∧ Below w.heap.size w w' := by
  have HT : Hid (Table w tg) := hT
  have htl := hT.lt
  have HT0 := Lib.hid (fun W (h : Below w.heap.size w W) => slTake_all tg (some ⟨b, o, none⟩) c (bs.take 512) B W (HT.out.below h htl) (by rw [List.length_take]; omega) (by omega) ((hb.part 0 512).below h hB) (Nat.le_trans hB h.size))
  have HT1 := Lib.hid (fun W (h : Below w.heap.size w W) => slTake_all tg (some ⟨b, o + 512, none⟩) (c - 512) (bs.drop 512) B W (HT.out.below h htl) (by rw [List.length_drop]; omega) (by omega) ((show Bytes w B (some ⟨b, o + 512, none⟩) (bs.drop 512) from by have := hb.part 512 512; rwa [List.take_of_length_le (by rw [List.length_drop]; omega)] at this).below h hB) (Nat.le_trans hB h.size))
  obtain ⟨q0, e0, d0, c0, hv0, hq0⟩ := slV_form (bs.take 512)
  obtain ⟨q1, e1, d1, c1, hv1, hq1⟩ := slV_form (bs.drop 512)
  have HV : Hid (chV bs = if slE (bs.drop 512) = 0 ∧ (slE (bs.take 512) ≠ 0 ∨ slN (bs.take 512) 0 < slN (bs.drop 512) 0) then slV (bs.drop 512) else if slE (bs.take 512) = 0 then slV (bs.take 512) else .tuple #[.agg #[.int .i64 0, .int .i64 0, .int .i64 0, .bool false], .int .i64 3]) := rfl
  rw [hv0, hv1] at HV
  rw [hv0] at HT0
  rw [hv1] at HT1
  obtain ⟨E0, hE0⟩ : ∃ E, slE (bs.take 512) = E := ⟨_, rfl⟩
  obtain ⟨E1, hE1⟩ : ∃ E, slE (bs.drop 512) = E := ⟨_, rfl⟩
  rw [hE0] at HT0 HV hq0
  rw [hE1] at HT1 HV hq1
  have HQ : Hid (E0 = 0 → E1 = 0 → (slN (bs.take 512) 0 < slN (bs.drop 512) 0 ↔ q0 < q1)) := fun h0 h1 => by rw [hq0 h0, hq1 h1]; omega
  have HP0 := Lib.hid (fun W => place_any 0 W)
  have HP1 := Lib.hid (fun W => place_any 1 W)
  rw [show placeC 0 = 0 by decide] at HP0
  rw [show placeC 1 = 512 by decide] at HP1
  have i0 : ∀ w, (Instr.index 57 (.agg #[.int .i64 0, .int .i64 512]) (.int .i64 0)).run Try.prog w = .ok (.int .i64 0) w := fun _ => by kernel_rfl
  have i1 : ∀ w, (Instr.index 57 (.agg #[.int .i64 0, .int .i64 512]) (.int .i64 1)).run Try.prog w = .ok (.int .i64 512) w := fun _ => by kernel_rfl
  have hc1 : ¬ c = 512 := by omega
  have hc0 : ¬ c = 0 := by omega
  clear hb hT hv0 hv1 hE0 hE1 hq0 hq1
  generalize slN (bs.take 512) 0 = n0 at *
  generalize slN (bs.drop 512) 0 = n1 at *
  go_enter Try.func16, Try.ntmps16
  go_wp2_with (first | (go_at_call 11; refine (HP0.out _).mono ?_; clear HP0; rintro x w' ⟨rfl, rfl⟩) | (go_at_call 11; refine (HP1.out _).mono ?_; rintro x w' ⟨rfl, rfl⟩))
  obtain ⟨w0, hw0⟩ : ∃ w0, (w.alloc (.cells #[.int .i64 0, .int .i64 0, .int .i64 0, .bool false] 23)).alloc (.cells #[.int .i64 0, .int .i64 0, .int .i64 0, .bool false] 23) = w0 := ⟨_, rfl⟩
  rw [hw0]
  have HR0 : Hid (Box w0 w.heap.size #[.int .i64 0, .int .i64 0, .int .i64 0, .bool false] 23) := by rw [← hw0]; exact (show Box (w.alloc (.cells #[.int .i64 0, .int .i64 0, .int .i64 0, .bool false] 23)) w.heap.size #[.int .i64 0, .int .i64 0, .int .i64 0, .bool false] 23 from heap_alloc_new w _).alloc _
  have HC0 : Hid (Box w0 (w.heap.size + 1) #[.int .i64 0, .int .i64 0, .int .i64 0, .bool false] 23) := by rw [← hw0]; have := heap_alloc_new (w.alloc (.cells #[.int .i64 0, .int .i64 0, .int .i64 0, .bool false] 23)) (.cells #[.int .i64 0, .int .i64 0, .int .i64 0, .bool false] 23); rw [show (w.alloc (.cells #[.int .i64 0, .int .i64 0, .int .i64 0, .bool false] 23)).heap.size = w.heap.size + 1 by simp] at this; exact this
  have HB0 : Hid (Below w.heap.size w w0) := by rw [← hw0]; exact ((Below.refl w.heap.size w).alloc (Nat.le_refl _) _).alloc (by simp) _
  clear hw0
  go_loopg [7, 9, 10, 11, 16] 2 (fun gk v _ _ _ i wr => Box wr w.heap.size #[.int .i64 0, .int .i64 0, .int .i64 0, .bool false] 23 ∧ Below w.heap.size w wr ∧ ((gk = 2 ∧ i = .int .i64 0 ∧ v = .int .i64 3 ∧ Box wr (w.heap.size + 1) #[.int .i64 0, .int .i64 0, .int .i64 0, .bool false] 23) ∨
    (gk = 1 ∧ i = .int .i64 1 ∧ ((E0 = 0 ∧ v = .int .i64 0 ∧ Box wr (w.heap.size + 1) #[.int .i64 q0, .int .i64 e0, .int .i64 d0, .bool c0] 23) ∨ (E0 ≠ 0 ∧ v = .int .i64 3 ∧ Box wr (w.heap.size + 1) #[.int .i64 0, .int .i64 0, .int .i64 0, .bool false] 23))) ∨
    (gk = 0 ∧ i = .int .i64 2 ∧ ∃ (q e d : Int) (cc : Bool) (E : Int), v = .int .i64 E ∧ Box wr (w.heap.size + 1) #[.int .i64 q, .int .i64 e, .int .i64 d, .bool cc] 23 ∧ chV bs = .tuple #[.agg #[.int .i64 q, .int .i64 e, .int .i64 d, .bool cc], .int .i64 E])))
  case atStart => exact ⟨HR0.out, HB0.out, .inl ⟨rfl, rfl, rfl, HC0.out⟩⟩
  case round =>
    clear HR0 HC0 HB0
    obtain ⟨hr, hbel, hc⟩ := hrel
    have HR := Lib.hid hr
    have HB := Lib.hid hbel
    clear hr hbel
    rcases hc with ⟨rfl, rfl, rfl, hc⟩ | ⟨rfl, rfl, ⟨h0, rfl, hc⟩ | ⟨h0, rfl, hc⟩⟩ | ⟨rfl, rfl, q, e, d, cc, E, rfl, hc, hv⟩
    · have HC := Lib.hid hc
      clear hc
      have hcl := HC.out.lt
      by_cases h0 : E0 = 0
      · have t1 : ((E0 : Int) == 0) = true := by simp [h0]
        have HE := Lib.hid h0
        clear h0
        go_wp2_with (go_at_call 17; refine (HT0.out _ HB.out).mono ?_; rintro x w2 ⟨rfl, hb⟩; have HR2 := Lib.hid (HR.out.below hb HR.out.lt); have HC2 := Lib.hid (HC.out.below hb HC.out.lt); have HB2 := Lib.hid (HB.out.trans (hb.mono HB.out.size)); clear hb; obtain ⟨w3, hw3⟩ : ∃ w3, w2.alloc (.cells #[.int .i64 q0, .int .i64 e0, .int .i64 d0, .bool c0] 23) = w3 := ⟨_, rfl⟩; have HR3 : Hid (Box w3 w.heap.size #[.int .i64 0, .int .i64 0, .int .i64 0, .bool false] 23) := (by rw [← hw3]; exact HR2.out.alloc _); have HC3 : Hid (Box w3 (w.heap.size + 1) #[.int .i64 0, .int .i64 0, .int .i64 0, .bool false] 23) := (by rw [← hw3]; exact HC2.out.alloc _); have HS3 : Hid (Box w3 w2.heap.size #[.int .i64 q0, .int .i64 e0, .int .i64 d0, .bool c0] 23) := (by rw [← hw3]; exact heap_alloc_new w2 _); have HB3 : Hid (Below w.heap.size w w3) := (by rw [← hw3]; exact HB2.out.alloc HB2.out.size _); have s0 : w3.cell? ⟨w2.heap.size, 0, none⟩ = some (.int .i64 q0) := HS3.out.cell 0; have k0 : w3.cell? ⟨w.heap.size + 1, 0, none⟩ = some (.int .i64 0) := HC3.out.cell 0; have f0 := frozen_of_row w3 (w.heap.size + 1) 0 _ _ HC3.out; have s1 : w3.cell? ⟨w2.heap.size, 1, none⟩ = some (.int .i64 e0) := HS3.out.cell 1; have k1 : w3.cell? ⟨w.heap.size + 1, 1, none⟩ = some (.int .i64 0) := HC3.out.cell 1; have f1 := frozen_of_row w3 (w.heap.size + 1) 1 _ _ HC3.out; have s2 : w3.cell? ⟨w2.heap.size, 2, none⟩ = some (.int .i64 d0) := HS3.out.cell 2; have k2 : w3.cell? ⟨w.heap.size + 1, 2, none⟩ = some (.int .i64 0) := HC3.out.cell 2; have f2 := frozen_of_row w3 (w.heap.size + 1) 2 _ _ HC3.out; have s3 : w3.cell? ⟨w2.heap.size, 3, none⟩ = some (.bool c0) := HS3.out.cell 3; have k3 : w3.cell? ⟨w.heap.size + 1, 3, none⟩ = some (.bool false) := HC3.out.cell 3; have f3 := frozen_of_row w3 (w.heap.size + 1) 3 _ _ HC3.out)
        go_roundg 1
        case measure => omega
        case rel => exact ⟨(((HR3.out.set_other _ (by omega)).set_other _ (by omega)).set_other _ (by omega)).set_other _ (by omega), set4 HB3.out (by omega) _ _ _ _, .inr (.inl ⟨rfl, rfl, .inl ⟨HE.out, rfl, (((HC3.out.set _).set _).set _).set _⟩⟩)⟩
      · have t1 : ((E0 : Int) == 0) = false := by simp; omega
        have HE := Lib.hid h0
        clear h0
        go_wp2_with (go_at_call 17; refine (HT0.out _ HB.out).mono ?_; rintro x w2 ⟨rfl, hb⟩; have HR2 := Lib.hid (HR.out.below hb HR.out.lt); have HC2 := Lib.hid (HC.out.below hb HC.out.lt); have HB2 := Lib.hid (HB.out.trans (hb.mono HB.out.size)); clear hb; obtain ⟨w3, hw3⟩ : ∃ w3, w2.alloc (.cells #[.int .i64 q0, .int .i64 e0, .int .i64 d0, .bool c0] 23) = w3 := ⟨_, rfl⟩; have HR3 : Hid (Box w3 w.heap.size #[.int .i64 0, .int .i64 0, .int .i64 0, .bool false] 23) := (by rw [← hw3]; exact HR2.out.alloc _); have HC3 : Hid (Box w3 (w.heap.size + 1) #[.int .i64 0, .int .i64 0, .int .i64 0, .bool false] 23) := (by rw [← hw3]; exact HC2.out.alloc _); have HS3 : Hid (Box w3 w2.heap.size #[.int .i64 q0, .int .i64 e0, .int .i64 d0, .bool c0] 23) := (by rw [← hw3]; exact heap_alloc_new w2 _); have HB3 : Hid (Below w.heap.size w w3) := (by rw [← hw3]; exact HB2.out.alloc HB2.out.size _); have s0 : w3.cell? ⟨w2.heap.size, 0, none⟩ = some (.int .i64 q0) := HS3.out.cell 0; have k0 : w3.cell? ⟨w.heap.size + 1, 0, none⟩ = some (.int .i64 0) := HC3.out.cell 0; have f0 := frozen_of_row w3 (w.heap.size + 1) 0 _ _ HC3.out; have s1 : w3.cell? ⟨w2.heap.size, 1, none⟩ = some (.int .i64 e0) := HS3.out.cell 1; have k1 : w3.cell? ⟨w.heap.size + 1, 1, none⟩ = some (.int .i64 0) := HC3.out.cell 1; have f1 := frozen_of_row w3 (w.heap.size + 1) 1 _ _ HC3.out; have s2 : w3.cell? ⟨w2.heap.size, 2, none⟩ = some (.int .i64 d0) := HS3.out.cell 2; have k2 : w3.cell? ⟨w.heap.size + 1, 2, none⟩ = some (.int .i64 0) := HC3.out.cell 2; have f2 := frozen_of_row w3 (w.heap.size + 1) 2 _ _ HC3.out; have s3 : w3.cell? ⟨w2.heap.size, 3, none⟩ = some (.bool c0) := HS3.out.cell 3; have k3 : w3.cell? ⟨w.heap.size + 1, 3, none⟩ = some (.bool false) := HC3.out.cell 3; have f3 := frozen_of_row w3 (w.heap.size + 1) 3 _ _ HC3.out)
        go_roundg 1
        case measure => omega
        case rel => exact ⟨HR3.out, HB3.out, .inr (.inl ⟨rfl, rfl, .inr ⟨HE.out, rfl, HC3.out⟩⟩)⟩
    · have HC := Lib.hid hc
      clear hc
      have hcl := HC.out.lt
      have HE := Lib.hid h0
      clear h0
      by_cases h1 : E1 = 0
      · have t1 : ((E1 : Int) == 0) = true := by simp [h1]
        have HQ2 := Lib.hid (HQ.out HE.out h1)
        have HE1 := Lib.hid h1
        clear h1
        by_cases hq : q0 < q1
        · have t2 : decide (q0 < q1) = true := decide_eq_true hq
          have HVV : Hid (chV bs = .tuple #[.agg #[.int .i64 q1, .int .i64 e1, .int .i64 d1, .bool c1], .int .i64 0]) := by show _ = _; rw [HV.out, if_pos ⟨HE1.out, .inr (HQ2.out.2 hq)⟩, HE1.out]; rfl
          clear hq
          go_wp2_with (go_at_call 17; refine (HT1.out _ HB.out).mono ?_; rintro x w2 ⟨rfl, hb⟩; have HR2 := Lib.hid (HR.out.below hb HR.out.lt); have HC2 := Lib.hid (HC.out.below hb HC.out.lt); have HB2 := Lib.hid (HB.out.trans (hb.mono HB.out.size)); clear hb; obtain ⟨w3, hw3⟩ : ∃ w3, w2.alloc (.cells #[.int .i64 q1, .int .i64 e1, .int .i64 d1, .bool c1] 23) = w3 := ⟨_, rfl⟩; have HR3 : Hid (Box w3 w.heap.size #[.int .i64 0, .int .i64 0, .int .i64 0, .bool false] 23) := (by rw [← hw3]; exact HR2.out.alloc _); have HC3 : Hid (Box w3 (w.heap.size + 1) #[.int .i64 q0, .int .i64 e0, .int .i64 d0, .bool c0] 23) := (by rw [← hw3]; exact HC2.out.alloc _); have HS3 : Hid (Box w3 w2.heap.size #[.int .i64 q1, .int .i64 e1, .int .i64 d1, .bool c1] 23) := (by rw [← hw3]; exact heap_alloc_new w2 _); have HB3 : Hid (Below w.heap.size w w3) := (by rw [← hw3]; exact HB2.out.alloc HB2.out.size _); have s0 : w3.cell? ⟨w2.heap.size, 0, none⟩ = some (.int .i64 q1) := HS3.out.cell 0; have k0 : w3.cell? ⟨w.heap.size + 1, 0, none⟩ = some (.int .i64 q0) := HC3.out.cell 0; have f0 := frozen_of_row w3 (w.heap.size + 1) 0 _ _ HC3.out; have s1 : w3.cell? ⟨w2.heap.size, 1, none⟩ = some (.int .i64 e1) := HS3.out.cell 1; have k1 : w3.cell? ⟨w.heap.size + 1, 1, none⟩ = some (.int .i64 e0) := HC3.out.cell 1; have f1 := frozen_of_row w3 (w.heap.size + 1) 1 _ _ HC3.out; have s2 : w3.cell? ⟨w2.heap.size, 2, none⟩ = some (.int .i64 d1) := HS3.out.cell 2; have k2 : w3.cell? ⟨w.heap.size + 1, 2, none⟩ = some (.int .i64 d0) := HC3.out.cell 2; have f2 := frozen_of_row w3 (w.heap.size + 1) 2 _ _ HC3.out; have s3 : w3.cell? ⟨w2.heap.size, 3, none⟩ = some (.bool c1) := HS3.out.cell 3; have k3 : w3.cell? ⟨w.heap.size + 1, 3, none⟩ = some (.bool c0) := HC3.out.cell 3; have f3 := frozen_of_row w3 (w.heap.size + 1) 3 _ _ HC3.out)
          go_roundg 0
          case measure => omega
          case rel => exact ⟨(((HR3.out.set_other _ (by omega)).set_other _ (by omega)).set_other _ (by omega)).set_other _ (by omega), set4 HB3.out (by omega) _ _ _ _, .inr (.inr ⟨rfl, rfl, _, _, _, _, _, rfl, (((HC3.out.set _).set _).set _).set _, HVV.out⟩)⟩
        · have t2 : decide (q0 < q1) = false := decide_eq_false hq
          have HVV : Hid (chV bs = .tuple #[.agg #[.int .i64 q0, .int .i64 e0, .int .i64 d0, .bool c0], .int .i64 0]) := by show _ = _; rw [HV.out, if_neg (fun h => h.2.elim (fun g => g HE.out) (fun g => hq (HQ2.out.1 g))), if_pos HE.out, HE.out]; rfl
          clear hq
          go_wp2_with (go_at_call 17; refine (HT1.out _ HB.out).mono ?_; rintro x w2 ⟨rfl, hb⟩; have HR2 := Lib.hid (HR.out.below hb HR.out.lt); have HC2 := Lib.hid (HC.out.below hb HC.out.lt); have HB2 := Lib.hid (HB.out.trans (hb.mono HB.out.size)); clear hb; obtain ⟨w3, hw3⟩ : ∃ w3, w2.alloc (.cells #[.int .i64 q1, .int .i64 e1, .int .i64 d1, .bool c1] 23) = w3 := ⟨_, rfl⟩; have HR3 : Hid (Box w3 w.heap.size #[.int .i64 0, .int .i64 0, .int .i64 0, .bool false] 23) := (by rw [← hw3]; exact HR2.out.alloc _); have HC3 : Hid (Box w3 (w.heap.size + 1) #[.int .i64 q0, .int .i64 e0, .int .i64 d0, .bool c0] 23) := (by rw [← hw3]; exact HC2.out.alloc _); have HS3 : Hid (Box w3 w2.heap.size #[.int .i64 q1, .int .i64 e1, .int .i64 d1, .bool c1] 23) := (by rw [← hw3]; exact heap_alloc_new w2 _); have HB3 : Hid (Below w.heap.size w w3) := (by rw [← hw3]; exact HB2.out.alloc HB2.out.size _); have s0 : w3.cell? ⟨w2.heap.size, 0, none⟩ = some (.int .i64 q1) := HS3.out.cell 0; have k0 : w3.cell? ⟨w.heap.size + 1, 0, none⟩ = some (.int .i64 q0) := HC3.out.cell 0; have f0 := frozen_of_row w3 (w.heap.size + 1) 0 _ _ HC3.out; have s1 : w3.cell? ⟨w2.heap.size, 1, none⟩ = some (.int .i64 e1) := HS3.out.cell 1; have k1 : w3.cell? ⟨w.heap.size + 1, 1, none⟩ = some (.int .i64 e0) := HC3.out.cell 1; have f1 := frozen_of_row w3 (w.heap.size + 1) 1 _ _ HC3.out; have s2 : w3.cell? ⟨w2.heap.size, 2, none⟩ = some (.int .i64 d1) := HS3.out.cell 2; have k2 : w3.cell? ⟨w.heap.size + 1, 2, none⟩ = some (.int .i64 d0) := HC3.out.cell 2; have f2 := frozen_of_row w3 (w.heap.size + 1) 2 _ _ HC3.out; have s3 : w3.cell? ⟨w2.heap.size, 3, none⟩ = some (.bool c1) := HS3.out.cell 3; have k3 : w3.cell? ⟨w.heap.size + 1, 3, none⟩ = some (.bool c0) := HC3.out.cell 3; have f3 := frozen_of_row w3 (w.heap.size + 1) 3 _ _ HC3.out)
          go_roundg 0
          case measure => omega
          case rel => exact ⟨HR3.out, HB3.out, .inr (.inr ⟨rfl, rfl, _, _, _, _, _, rfl, HC3.out, HVV.out⟩)⟩
      · have t1 : ((E1 : Int) == 0) = false := by simp; omega
        have HVV : Hid (chV bs = .tuple #[.agg #[.int .i64 q0, .int .i64 e0, .int .i64 d0, .bool c0], .int .i64 0]) := by show _ = _; rw [HV.out, if_neg (fun h => h1 h.1), if_pos HE.out, HE.out]; rfl
        clear h1
        go_wp2_with (go_at_call 17; refine (HT1.out _ HB.out).mono ?_; rintro x w2 ⟨rfl, hb⟩; have HR2 := Lib.hid (HR.out.below hb HR.out.lt); have HC2 := Lib.hid (HC.out.below hb HC.out.lt); have HB2 := Lib.hid (HB.out.trans (hb.mono HB.out.size)); clear hb; obtain ⟨w3, hw3⟩ : ∃ w3, w2.alloc (.cells #[.int .i64 q1, .int .i64 e1, .int .i64 d1, .bool c1] 23) = w3 := ⟨_, rfl⟩; have HR3 : Hid (Box w3 w.heap.size #[.int .i64 0, .int .i64 0, .int .i64 0, .bool false] 23) := (by rw [← hw3]; exact HR2.out.alloc _); have HC3 : Hid (Box w3 (w.heap.size + 1) #[.int .i64 q0, .int .i64 e0, .int .i64 d0, .bool c0] 23) := (by rw [← hw3]; exact HC2.out.alloc _); have HS3 : Hid (Box w3 w2.heap.size #[.int .i64 q1, .int .i64 e1, .int .i64 d1, .bool c1] 23) := (by rw [← hw3]; exact heap_alloc_new w2 _); have HB3 : Hid (Below w.heap.size w w3) := (by rw [← hw3]; exact HB2.out.alloc HB2.out.size _); have s0 : w3.cell? ⟨w2.heap.size, 0, none⟩ = some (.int .i64 q1) := HS3.out.cell 0; have k0 : w3.cell? ⟨w.heap.size + 1, 0, none⟩ = some (.int .i64 q0) := HC3.out.cell 0; have f0 := frozen_of_row w3 (w.heap.size + 1) 0 _ _ HC3.out; have s1 : w3.cell? ⟨w2.heap.size, 1, none⟩ = some (.int .i64 e1) := HS3.out.cell 1; have k1 : w3.cell? ⟨w.heap.size + 1, 1, none⟩ = some (.int .i64 e0) := HC3.out.cell 1; have f1 := frozen_of_row w3 (w.heap.size + 1) 1 _ _ HC3.out; have s2 : w3.cell? ⟨w2.heap.size, 2, none⟩ = some (.int .i64 d1) := HS3.out.cell 2; have k2 : w3.cell? ⟨w.heap.size + 1, 2, none⟩ = some (.int .i64 d0) := HC3.out.cell 2; have f2 := frozen_of_row w3 (w.heap.size + 1) 2 _ _ HC3.out; have s3 : w3.cell? ⟨w2.heap.size, 3, none⟩ = some (.bool c1) := HS3.out.cell 3; have k3 : w3.cell? ⟨w.heap.size + 1, 3, none⟩ = some (.bool c0) := HC3.out.cell 3; have f3 := frozen_of_row w3 (w.heap.size + 1) 3 _ _ HC3.out)
        go_roundg 0
        case measure => omega
        case rel => exact ⟨HR3.out, HB3.out, .inr (.inr ⟨rfl, rfl, _, _, _, _, _, rfl, HC3.out, HVV.out⟩)⟩
    · have HC := Lib.hid hc
      clear hc
      have hcl := HC.out.lt
      have HE := Lib.hid h0
      clear h0
      by_cases h1 : E1 = 0
      · have t1 : ((E1 : Int) == 0) = true := by simp [h1]
        have HVV : Hid (chV bs = .tuple #[.agg #[.int .i64 q1, .int .i64 e1, .int .i64 d1, .bool c1], .int .i64 0]) := by show _ = _; rw [HV.out, if_pos ⟨h1, .inl HE.out⟩, h1]; rfl
        clear h1
        go_wp2_with (go_at_call 17; refine (HT1.out _ HB.out).mono ?_; rintro x w2 ⟨rfl, hb⟩; have HR2 := Lib.hid (HR.out.below hb HR.out.lt); have HC2 := Lib.hid (HC.out.below hb HC.out.lt); have HB2 := Lib.hid (HB.out.trans (hb.mono HB.out.size)); clear hb; obtain ⟨w3, hw3⟩ : ∃ w3, w2.alloc (.cells #[.int .i64 q1, .int .i64 e1, .int .i64 d1, .bool c1] 23) = w3 := ⟨_, rfl⟩; have HR3 : Hid (Box w3 w.heap.size #[.int .i64 0, .int .i64 0, .int .i64 0, .bool false] 23) := (by rw [← hw3]; exact HR2.out.alloc _); have HC3 : Hid (Box w3 (w.heap.size + 1) #[.int .i64 0, .int .i64 0, .int .i64 0, .bool false] 23) := (by rw [← hw3]; exact HC2.out.alloc _); have HS3 : Hid (Box w3 w2.heap.size #[.int .i64 q1, .int .i64 e1, .int .i64 d1, .bool c1] 23) := (by rw [← hw3]; exact heap_alloc_new w2 _); have HB3 : Hid (Below w.heap.size w w3) := (by rw [← hw3]; exact HB2.out.alloc HB2.out.size _); have s0 : w3.cell? ⟨w2.heap.size, 0, none⟩ = some (.int .i64 q1) := HS3.out.cell 0; have k0 : w3.cell? ⟨w.heap.size + 1, 0, none⟩ = some (.int .i64 0) := HC3.out.cell 0; have f0 := frozen_of_row w3 (w.heap.size + 1) 0 _ _ HC3.out; have s1 : w3.cell? ⟨w2.heap.size, 1, none⟩ = some (.int .i64 e1) := HS3.out.cell 1; have k1 : w3.cell? ⟨w.heap.size + 1, 1, none⟩ = some (.int .i64 0) := HC3.out.cell 1; have f1 := frozen_of_row w3 (w.heap.size + 1) 1 _ _ HC3.out; have s2 : w3.cell? ⟨w2.heap.size, 2, none⟩ = some (.int .i64 d1) := HS3.out.cell 2; have k2 : w3.cell? ⟨w.heap.size + 1, 2, none⟩ = some (.int .i64 0) := HC3.out.cell 2; have f2 := frozen_of_row w3 (w.heap.size + 1) 2 _ _ HC3.out; have s3 : w3.cell? ⟨w2.heap.size, 3, none⟩ = some (.bool c1) := HS3.out.cell 3; have k3 : w3.cell? ⟨w.heap.size + 1, 3, none⟩ = some (.bool false) := HC3.out.cell 3; have f3 := frozen_of_row w3 (w.heap.size + 1) 3 _ _ HC3.out)
        go_roundg 0
        case measure => omega
        case rel => exact ⟨(((HR3.out.set_other _ (by omega)).set_other _ (by omega)).set_other _ (by omega)).set_other _ (by omega), set4 HB3.out (by omega) _ _ _ _, .inr (.inr ⟨rfl, rfl, _, _, _, _, _, rfl, (((HC3.out.set _).set _).set _).set _, HVV.out⟩)⟩
      · have t1 : ((E1 : Int) == 0) = false := by simp; omega
        have HVV : Hid (chV bs = .tuple #[.agg #[.int .i64 0, .int .i64 0, .int .i64 0, .bool false], .int .i64 3]) := by show _ = _; rw [HV.out, if_neg (fun h => h1 h.1), if_neg HE.out]
        clear h1
        go_wp2_with (go_at_call 17; refine (HT1.out _ HB.out).mono ?_; rintro x w2 ⟨rfl, hb⟩; have HR2 := Lib.hid (HR.out.below hb HR.out.lt); have HC2 := Lib.hid (HC.out.below hb HC.out.lt); have HB2 := Lib.hid (HB.out.trans (hb.mono HB.out.size)); clear hb; obtain ⟨w3, hw3⟩ : ∃ w3, w2.alloc (.cells #[.int .i64 q1, .int .i64 e1, .int .i64 d1, .bool c1] 23) = w3 := ⟨_, rfl⟩; have HR3 : Hid (Box w3 w.heap.size #[.int .i64 0, .int .i64 0, .int .i64 0, .bool false] 23) := (by rw [← hw3]; exact HR2.out.alloc _); have HC3 : Hid (Box w3 (w.heap.size + 1) #[.int .i64 0, .int .i64 0, .int .i64 0, .bool false] 23) := (by rw [← hw3]; exact HC2.out.alloc _); have HS3 : Hid (Box w3 w2.heap.size #[.int .i64 q1, .int .i64 e1, .int .i64 d1, .bool c1] 23) := (by rw [← hw3]; exact heap_alloc_new w2 _); have HB3 : Hid (Below w.heap.size w w3) := (by rw [← hw3]; exact HB2.out.alloc HB2.out.size _); have s0 : w3.cell? ⟨w2.heap.size, 0, none⟩ = some (.int .i64 q1) := HS3.out.cell 0; have k0 : w3.cell? ⟨w.heap.size + 1, 0, none⟩ = some (.int .i64 0) := HC3.out.cell 0; have f0 := frozen_of_row w3 (w.heap.size + 1) 0 _ _ HC3.out; have s1 : w3.cell? ⟨w2.heap.size, 1, none⟩ = some (.int .i64 e1) := HS3.out.cell 1; have k1 : w3.cell? ⟨w.heap.size + 1, 1, none⟩ = some (.int .i64 0) := HC3.out.cell 1; have f1 := frozen_of_row w3 (w.heap.size + 1) 1 _ _ HC3.out; have s2 : w3.cell? ⟨w2.heap.size, 2, none⟩ = some (.int .i64 d1) := HS3.out.cell 2; have k2 : w3.cell? ⟨w.heap.size + 1, 2, none⟩ = some (.int .i64 0) := HC3.out.cell 2; have f2 := frozen_of_row w3 (w.heap.size + 1) 2 _ _ HC3.out; have s3 : w3.cell? ⟨w2.heap.size, 3, none⟩ = some (.bool c1) := HS3.out.cell 3; have k3 : w3.cell? ⟨w.heap.size + 1, 3, none⟩ = some (.bool false) := HC3.out.cell 3; have f3 := frozen_of_row w3 (w.heap.size + 1) 3 _ _ HC3.out)
        go_roundg 0
        case measure => omega
        case rel => exact ⟨HR3.out, HB3.out, .inr (.inr ⟨rfl, rfl, _, _, _, _, _, rfl, HC3.out, HVV.out⟩)⟩
    · have HC := Lib.hid hc
      have HVV := Lib.hid hv
      clear hc hv
      have hcl := HC.out.lt
      have k0 : wr.cell? ⟨w.heap.size + 1, 0, none⟩ = some (.int .i64 q) := HC.out.cell 0
      have x0 : wr.cell? ⟨w.heap.size, 0, none⟩ = some (.int .i64 0) := HR.out.cell 0
      have f0 := frozen_of_row wr w.heap.size 0 _ _ HR.out
      have k1 : wr.cell? ⟨w.heap.size + 1, 1, none⟩ = some (.int .i64 e) := HC.out.cell 1
      have x1 : wr.cell? ⟨w.heap.size, 1, none⟩ = some (.int .i64 0) := HR.out.cell 1
      have f1 := frozen_of_row wr w.heap.size 1 _ _ HR.out
      have k2 : wr.cell? ⟨w.heap.size + 1, 2, none⟩ = some (.int .i64 d) := HC.out.cell 2
      have x2 : wr.cell? ⟨w.heap.size, 2, none⟩ = some (.int .i64 0) := HR.out.cell 2
      have f2 := frozen_of_row wr w.heap.size 2 _ _ HR.out
      have k3 : wr.cell? ⟨w.heap.size + 1, 3, none⟩ = some (.bool cc) := HC.out.cell 3
      have x3 : wr.cell? ⟨w.heap.size, 3, none⟩ = some (.bool false) := HR.out.cell 3
      have f3 := frozen_of_row wr w.heap.size 3 _ _ HR.out
      go_wp2
      refine bodyPost_ret (v := .tuple #[.agg #[.int .i64 q, .int .i64 e, .int .i64 d, .bool cc], .int .i64 E]) (by simp [results, Try.results16, x0, x1, x2, x3, go_sem]) rfl ⟨by rw [HVV.out], ?_⟩
      exact set4 HB.out (Nat.le_refl _) _ _ _ _
end Go.Proofs.Ytpokicngpapkcaa
