/- Layer 10's Best of the reference: the best match. -/
import Derived.Test.YtglbmghpkipipaaMaLen
namespace Go.Proofs.Ytglbmghpkipipaa
open Go.RowKit

theorem three_len' {bs : List UInt8} {a d : Nat} (h1 : a + 3 ≤ bs.length) (h2 : 1 ≤ d) (h3 : d ≤ a) (h4 : d ≤ 32768) : three bs a d = decide (3 ≤ lenI bs (a : Int) (d : Int)) := by
  rw [lenI_at bs (by omega) h2 h4 h3]
  rw [Bool.eq_iff_iff, decide_eq_true_eq]
  constructor
  · intro h5
    unfold three at h5
    rw [Bool.and_eq_true, Bool.and_eq_true, beq_iff_eq, beq_iff_eq, beq_iff_eq] at h5
    refine runM_many bs a d _ 0 3 (by unfold capM; omega) fun i _ hi => ?_
    rcases (show i = 0 ∨ i = 1 ∨ i = 2 by omega) with rfl | rfl | rfl
    · exact h5.1.1.symm
    · rw [show a + 1 - d = a - d + 1 by omega]; exact h5.1.2.symm
    · rw [show a + 2 - d = a - d + 2 by omega]; exact h5.2.symm
  · intro h
    have e0 := runM_same bs a d (capM bs a) 0 0 (by omega) (by omega)
    have e1 := runM_same bs a d (capM bs a) 0 1 (by omega) (by omega)
    have e2 := runM_same bs a d (capM bs a) 0 2 (by omega) (by omega)
    rw [show a + 1 - d = a - d + 1 by omega] at e1
    rw [show a + 2 - d = a - d + 2 by omega] at e2
    simp only [Nat.add_zero] at e0
    unfold three
    rw [e0, e1, e2]
    simp
theorem lenI_short' {bs : List UInt8} {a d : Int} (h : (bs.length : Int) < a + 3) : lenI bs a d < 3 := by
  unfold lenI
  split
  · have := runM_le bs a.toNat d.toNat (capM bs a.toNat) 0
    unfold capM at this ⊢
    omega
  · omega
/-- The candidates up to a distance. -/
def cN (bs : List UInt8) (an e : Nat) : List Nat := if an + 3 ≤ bs.length then candN bs an e else []
theorem cN_step {bs : List UInt8} {an e : Nat} (h3 : e + 1 ≤ an) (h4 : e + 1 ≤ 32768) : cN bs an (e + 1) = if 3 ≤ lenI bs (an : Int) ((e + 1 : Nat) : Int) then cN bs an e ++ [e + 1] else cN bs an e := by
  unfold cN
  by_cases h : an + 3 ≤ bs.length
  · rw [if_pos h, if_pos h]
    have ht := three_len' h (by omega) h3 h4
    split
    · rename_i h5
      rw [decide_eq_true h5] at ht
      exact candN_yes ht
    · rename_i h5
      rw [decide_eq_false h5] at ht
      exact candN_no ht
  · rw [if_neg h, if_neg h, if_neg (by have := lenI_short' (bs := bs) (a := (an : Int)) (d := ((e + 1 : Nat) : Int)) (by omega); omega)]
theorem cN_all (bs : List UInt8) (an : Nat) : cands bs (an : Int) = cN bs an (min an 32768) := by
  unfold cands cN
  by_cases h : an + 3 ≤ bs.length
  · rw [if_pos (by omega), if_pos h, Int.toNat_natCast]
  · rw [if_neg (by omega), if_neg h]
theorem cN_pre (bs : List UInt8) (an : Nat) {e : Nat} (h : e ≤ min an 32768) : cN bs an e <+: cands bs (an : Int) := by
  rw [cN_all]
  unfold cN
  split
  · exact candN_pre bs an h
  · exact List.prefix_refl _
theorem best_end {bs : List UInt8} {an e n d : Nat} {depth : Int} (hf : foldM bs (an : Int) (cN bs an e) = (n, d)) (hee : e ≤ min an 32768) (hd : (((cN bs an e).length : Nat) : Int) ≤ depth ∨ (cN bs an e).length = 0)
    (he : e = min an 32768 ∨ depth - (((cN bs an e).length : Nat) : Int) ≤ 0) : bestM bs (an : Int) depth = (n, d) := by
  by_cases h0 : depth ≤ 0
  · have hxs : cN bs an e = [] := List.eq_nil_of_length_eq_zero (by omega)
    rw [bestM, show depth.toNat = 0 by omega, List.take_zero, ← hf, hxs]
  · rw [← hf]
    refine (bestM_end (cN_pre bs an hee) (by omega) ?_).symm
    rcases he with h | h
    · left; rw [h, ← cN_all]
    · right; left; omega
set_option maxRecDepth 100000 in
set_option maxHeartbeats 2000000 in
theorem rbest_any (A : Option Addr) (l c : Nat) (bs : List UInt8) (a depth : Int) (B : Nat) (w : World) (hl : bs.length = l) (hm : l ≤ 1099511627776) (hb : Bytes w B A bs) (hdp : -9223372036854775808 ≤ depth ∧ depth ≤ 9223372036854775807) :
    Calls Try.prog 18 #[.slice A l c, .int .i64 a, .int .i64 depth] w fun e w' => e = .returned (.tuple #[.int .i64 ((bestM bs a depth).1 : Nat), .int .i64 ((bestM bs a depth).2 : Nat)]) ∧ ∃ m, w' = w.drewN m := by
  by_cases h0 : a < 0
  · have HR : Hid (bestM bs a depth = (0, 0)) := by show _ = _; rw [bestM, cands, if_neg (by omega), List.take_nil]; rfl
    have t0 : decide (a < 0) = true := decide_eq_true h0
    clear h0 hb hl
    go_enter Try.func18, Try.ntmps18
    go_wp2
    go_ret2
    exact ⟨by rw [HR.out]; rfl, 0, rfl⟩
  have t0 : decide (a < 0) = false := decide_eq_false h0
  by_cases h1 : (l : Int) ≤ a
  · have HR : Hid (bestM bs a depth = (0, 0)) := by show _ = _; rw [bestM, cands, if_neg (by omega), List.take_nil]; rfl
    have t1 : decide ((l : Int) ≤ a) = true := decide_eq_true h1
    clear h0 h1 hb hl
    go_enter Try.func18, Try.ntmps18
    go_wp2
    go_ret2
    exact ⟨by rw [HR.out]; rfl, 0, rfl⟩
  obtain ⟨an, rfl⟩ := Int.eq_ofNat_of_zero_le (show 0 ≤ a by omega)
  have t1 : decide ((l : Int) ≤ (an : Int)) = false := decide_eq_false h1
  have t1' : decide (l ≤ an) = false := decide_eq_false (by omega)
  have hal : an < l := by omega
  have HBY := Lib.hid hb
  have HL := Lib.hid hl
  obtain ⟨M, hM⟩ : ∃ M, min an 32768 = M := ⟨_, rfl⟩
  have HM : Hid (M ≤ an ∧ M ≤ 32768 ∧ (M < an → M = 32768)) := by show _ ∧ _ ∧ _; omega
  have HMM := Lib.hid hM
  have HC0 : Hid (cN bs an 0 = []) := by
    show _ = _
    unfold cN
    split <;> rfl
  clear hb hl h0 h1 hM
  go_enter Try.func18, Try.ntmps18
  go_wp2
  go_loopg [2, 8, 9, 10] M (fun gk s2 s8 s9 s10 wr => ∃ (e n d k m : Nat) (dep : Int), e + gk = M ∧ s2 = .int .i64 dep ∧ s8 = .int .i64 n ∧ s9 = .int .i64 d ∧ s10 = .int .i64 ((e + 1 : Nat) : Int) ∧ wr = w.drewN m ∧
    (k = (cN bs an e).length ∧ foldM bs (an : Int) (cN bs an e) = (n, d)) ∧ dep = depth - (k : Int) ∧ ((k : Int) ≤ depth ∨ k = 0))
  case atStart => exact ⟨0, 0, 0, 0, 0, depth, by omega, rfl, rfl, rfl, rfl, rfl, ⟨by rw [HC0.out]; rfl, by rw [HC0.out]; rfl⟩, by simp, .inr rfl⟩
  case round =>
    obtain ⟨e, n, d, k, m, dep, hem, rfl, rfl, rfl, rfl, rfl, hk, hdep, hkd⟩ := hrel
    have HEND : Hid (gk = 0 ∨ dep ≤ 0 → bestM bs (an : Int) depth = (n, d)) := fun he =>
      best_end hk.2 (by rw [HMM.out]; omega) (by rw [← hk.1]; exact hkd) (by rw [← hk.1, ← hdep, HMM.out]; exact he.imp (fun h => by omega) id)
    have hmm := HM.out
    have HK := Lib.hid hk
    have HKD := Lib.hid hkd
    by_cases hg : gk = 0
    · have HE := Lib.hid (HEND.out (.inl hg))
      obtain rfl : e = M := by omega
      clear hk hkd hdep
      by_cases hea : e < an
      · have t2 : decide ((e : Int) + 1 ≤ (an : Int)) = true := decide_eq_true (by omega)
        have t3 : decide ((e : Int) + 1 ≤ 32768) = false := decide_eq_false (by omega)
        go_wp2
        go_ret2
        exact ⟨by rw [HE.out]; rfl, m, rfl⟩
      · have t2 : decide ((e : Int) + 1 ≤ (an : Int)) = false := decide_eq_false (by omega)
        go_wp2
        go_ret2
        exact ⟨by rw [HE.out]; rfl, m, rfl⟩
    · have t2 : decide ((e : Int) + 1 ≤ (an : Int)) = true := decide_eq_true (by omega)
      have t3 : decide ((e : Int) + 1 ≤ 32768) = true := decide_eq_true (by omega)
      by_cases hd0 : dep ≤ 0
      · have HE := Lib.hid (HEND.out (.inr hd0))
        have t4 : decide (0 < dep) = false := decide_eq_false (by omega)
        clear hk hkd hdep
        go_wp2
        go_ret2
        exact ⟨by rw [HE.out]; rfl, m, rfl⟩
      · have t4 : decide (0 < dep) = true := decide_eq_true (by omega)
        obtain ⟨ln, hln⟩ : ∃ ln, lenI bs (an : Int) ((e + 1 : Nat) : Int) = ln := ⟨_, rfl⟩
        have HST := Lib.hid (cN_step (bs := bs) (an := an) (e := e) (by omega) (by omega))
        rw [hln] at HST
        have HLN := Lib.hid (rlen_any A l c bs B (an : Int) ((e + 1 : Nat) : Int) (w.drewN m) HL.out (by omega) HBY.out)
        rw [hln] at HLN
        have hln2 : ln ≤ 258 := by rw [← hln]; exact lenI_le _ _ _
        have hfx : stepM bs (an : Int) (n, d) (e + 1) = if n < ln then (ln, e + 1) else (n, d) := by rw [stepM, hln]
        have HDP : Hid (¬ dep ≤ 0 ∧ dep = depth - (k : Int)) := ⟨hd0, hdep⟩
        have hdle : dep ≤ 9223372036854775807 := by omega
        clear hk hkd hdep hln
        by_cases h3 : ln < 3
        · have t5 : decide ((ln : Int) < 3) = true := decide_eq_true (by omega)
          have HCE : Hid (cN bs an (e + 1) = cN bs an e) := by show _ = _; rw [HST.out, if_neg (by omega)]
          clear hfx
          go_wp2_with (go_at_call 33; refine HLN.out.mono ?_; rintro e w' ⟨rfl, m2, rfl⟩)
          go_roundg (gk - 1)
          case measure => omega
          case rel => exact ⟨e + 1, n, d, k, m + m2, dep, by omega, rfl, rfl, rfl, by go_num, by simp, by rw [HCE.out]; exact HK.out, HDP.out.2, HKD.out⟩
        · have t5 : decide ((ln : Int) < 3) = false := decide_eq_false (by omega)
          have HCE : Hid (cN bs an (e + 1) = cN bs an e ++ [e + 1]) := by show _ = _; rw [HST.out, if_pos (by omega)]
          have HCL : Hid (k + 1 = (cN bs an (e + 1)).length) := by show _ = _; rw [HCE.out, List.length_append, ← HK.out.1]; rfl
          have HFF : Hid (foldM bs (an : Int) (cN bs an (e + 1)) = if n < ln then (ln, e + 1) else (n, d)) := by show _ = _; rw [HCE.out, foldM_snoc, HK.out.2, hfx]
          have hwd : IntKind.i64.wrap (dep - 1) = dep - 1 := IntWalk.i64_in _ (by omega)
          clear hfx
          by_cases hgt : n < ln
          · have t6 : decide ((n : Int) < (ln : Int)) = true := decide_eq_true (by omega)
            go_wp2_with (go_at_call 33; refine HLN.out.mono ?_; rintro e w' ⟨rfl, m2, rfl⟩)
            go_roundg (gk - 1)
            case measure => omega
            case rel => exact ⟨e + 1, ln, e + 1, k + 1, m + m2, dep - 1, by omega, rfl, by go_num, by go_num, by go_num, by simp, ⟨HCL.out, by rw [HFF.out, if_pos hgt]⟩, by have := HDP.out; omega, by have := HKD.out; have := HDP.out; omega⟩
          · have t6 : decide ((n : Int) < (ln : Int)) = false := decide_eq_false (by omega)
            go_wp2_with (go_at_call 33; refine HLN.out.mono ?_; rintro e w' ⟨rfl, m2, rfl⟩)
            go_roundg (gk - 1)
            case measure => omega
            case rel => exact ⟨e + 1, n, d, k + 1, m + m2, dep - 1, by omega, rfl, by go_num, by go_num, by go_num, by simp, ⟨HCL.out, by rw [HFF.out, if_neg hgt]⟩, by have := HDP.out; omega, by have := HKD.out; have := HDP.out; omega⟩
end Go.Proofs.Ytglbmghpkipipaa
