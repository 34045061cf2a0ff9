/- Layer 10: the law MatchChains. -/
import Derived.Test.YtnkkdjnhnbiiaaaMbLaw
namespace Go.Proofs.Ytnkkdjnhnbiiaaa
open Go.RowKit Go.Shelf

theorem cands_none {bs : List UInt8} {a : Int} (h : a < 0 ∨ (bs.length : Int) ≤ a) : cands bs a = [] := by
  rw [cands, if_neg (by omega)]
set_option maxRecDepth 100000 in
set_option maxHeartbeats 2000000 in
theorem chains_law (A : Option Addr) (l c : Nat) (bs : List UInt8) (a : Int) (w : World) (hl : bs.length = l) (hcap : l ≤ c) (hb : Bytes w w.heap.size A bs) :
    Calls Try.prog 5 #[.slice A l c, .int .i64 a] w fun e w' => e = .returned (.bool true) ∧ Below w.heap.size w w' := by
  have HLV := Lib.hid (fun W : World => lives10_any W)
  by_cases h0 : 1500 < l
  · have t0 : decide ((1500 : Int) < (l : Int)) = true := decide_eq_true (by omega)
    clear h0 hb
    go_enter Try.func5, Try.ntmps5
    go_wp2_with (go_at_call 7; refine (HLV.out _).mono ?_; rintro e w' ⟨rfl, hb2⟩; have HB2 := Lib.hid hb2; clear hb2)
    go_ret
    exact ⟨rfl, HB2.out⟩
  have t0 : decide ((1500 : Int) < (l : Int)) = false := decide_eq_false (by omega)
  have t0' : decide (1500 < l) = false := decide_eq_false h0
  have HNE := Lib.hid (new_any A l c bs w.heap.size w hl (by omega) hcap hb (Nat.le_refl _))
  have HCH := Lib.hid (fun (Z : World) (h : LF Z (w.heap.size + 1) w.heap.size A l c bs) => chain_some (w.heap.size + 1) w.heap.size A l c bs a Z hl (by omega) h)
  have HL := Lib.hid hl
  have HBY := Lib.hid hb
  have hl5 : l ≤ 1500 := by omega
  obtain ⟨L, hL⟩ : ∃ L, cands bs a = L := ⟨_, rfl⟩
  rw [hL] at HCH
  have hLn : L.length ≤ 32768 := by rw [← hL]; exact cands_len bs a
  by_cases hbad : a < 0 ∨ (l : Int) ≤ a
  · have hL0 : L = [] := by rw [← hL]; exact cands_none (by rw [hl]; exact hbad)
    subst hL0
    clear hb hl hL hLn
    go_enter Try.func5, Try.ntmps5
    go_wp2_with (first
      | (go_at_call 10; refine HNE.out.mono ?_; rintro e w2 ⟨rfl, hf, hb2⟩; have HF := Lib.hid hf; have HB2 := Lib.hid hb2; clear hf hb2)
      | (go_at_call 14; refine (HCH.out _ HF.out).mono ?_; rintro e w3 ⟨A3, c3, rfl, _, hb3⟩; have HB3 := Lib.hid hb3; clear hb3))
    go_loopg [6, 7] 0 (fun _ k d wr => k = .int .i64 0 ∧ d = .int .i64 1 ∧ wr = w3)
    case atStart => exact ⟨rfl, rfl, rfl⟩
    case round =>
      obtain ⟨rfl, rfl, rfl⟩ := hrel
      by_cases h1 : 1 ≤ a
      · have t1 : decide ((1 : Int) ≤ a) = true := decide_eq_true h1
        have t2 : decide (a < (l : Int)) = false := decide_eq_false (by omega)
        clear hbad h1
        go_wp2_with (go_at_call 7; refine (HLV.out _).mono ?_; rintro e w' ⟨rfl, hb2⟩; have HB4 := Lib.hid hb2; clear hb2)
        go_ret
        exact ⟨rfl, (HB2.out.trans (HB3.out.mono HB2.out.size)).trans (HB4.out.mono (HB2.out.trans (HB3.out.mono HB2.out.size)).size)⟩
      · have t1 : decide ((1 : Int) ≤ a) = false := decide_eq_false h1
        clear hbad h1
        go_wp2_with (go_at_call 7; refine (HLV.out _).mono ?_; rintro e w' ⟨rfl, hb2⟩; have HB4 := Lib.hid hb2; clear hb2)
        go_ret
        exact ⟨rfl, (HB2.out.trans (HB3.out.mono HB2.out.size)).trans (HB4.out.mono (HB2.out.trans (HB3.out.mono HB2.out.size)).size)⟩
  · obtain ⟨an, rfl⟩ := Int.eq_ofNat_of_zero_le (show 0 ≤ a by omega)
    have hal : an < l := by omega
    obtain ⟨M, hM⟩ : ∃ M, min an 32768 = M := ⟨_, rfl⟩
    have HM : Hid (M = an) := by show _ = _; omega
    have HLM : Hid (cN bs an M = L) := by show _ = _; rw [← hM, ← hL, cN_all]
    have HPRE : Hid (∀ e, e ≤ M → cN bs an e <+: L) := fun e he => by rw [← hL]; exact cN_pre bs an (by omega)
    have HC0 : Hid (cN bs an 0 = []) := by
      show _ = _
      unfold cN
      split <;> rfl
    have tal : decide ((an : Int) < (l : Int)) = true := decide_eq_true (by omega)
    have tal' : decide (an < l) = true := decide_eq_true hal
    clear hb hl hL hM hbad
    go_enter Try.func5, Try.ntmps5
    go_wp2_with (first
      | (go_at_call 10; refine HNE.out.mono ?_; rintro e w2 ⟨rfl, hf, hb2⟩; have HF := Lib.hid hf; have HB2 := Lib.hid hb2; clear hf hb2)
      | (go_at_call 14; refine (HCH.out _ HF.out).mono ?_; rintro e w3 ⟨A3, c3, rfl, hcs, hb3⟩; have HCS := Lib.hid hcs; have HB3 := Lib.hid hb3; clear hcs hb3))
    have HBW := Lib.hid (HB2.out.trans (HB3.out.mono HB2.out.size))
    go_loopg [6, 7] M (fun gk s6 s7 wr => ∃ e k m : Nat, e + gk = M ∧ s6 = .int .i64 k ∧ s7 = .int .i64 ((e + 1 : Nat) : Int) ∧ k = (cN bs an e).length ∧ wr = w3.drewN m)
    case atStart => exact ⟨0, 0, 0, by omega, rfl, rfl, by rw [HC0.out]; rfl, rfl⟩
    case round =>
      obtain ⟨e, k, m, hem, rfl, rfl, hk, rfl⟩ := hrel
      have hmm := HM.out
      by_cases hg : gk = 0
      · obtain rfl : e = M := by omega
        have hkL : k = L.length := by rw [hk, HLM.out]
        have t1 : decide ((e : Int) + 1 ≤ (an : Int)) = false := decide_eq_false (by omega)
        have t2 : ((k : Int) == (L.length : Int)) = true := by simp; omega
        have HKL := Lib.hid hkL
        clear hk hkL
        go_wp2_with (go_at_call 7; refine (HLV.out _).mono ?_; rintro e w' ⟨rfl, hb2⟩; have HB4 := Lib.hid hb2; clear hb2)
        go_ret
        exact ⟨rfl, (Below.drewN HBW.out m).trans (HB4.out.mono (Below.drewN HBW.out m).size)⟩
      · have t1 : decide ((e : Int) + 1 ≤ (an : Int)) = true := decide_eq_true (by omega)
        have t3 : decide ((e : Int) + 1 ≤ 32768) = true := decide_eq_true (by omega)
        obtain ⟨ln, hln⟩ : ∃ ln, lenI bs (an : Int) ((e + 1 : Nat) : Int) = ln := ⟨_, rfl⟩
        have HST := Lib.hid (cN_step (bs := bs) (an := an) (e := e) (by omega) (by omega))
        rw [hln] at HST
        have HLN := Lib.hid (rlen_any A l c bs w.heap.size (an : Int) ((e + 1 : Nat) : Int) (w3.drewN m) HL.out (by omega) (HBY.out.below (Below.drewN HBW.out m) (Nat.le_refl _)))
        rw [hln] at HLN
        have HK := Lib.hid hk
        clear hk hln
        by_cases h3 : ln < 3
        · have t5 : decide ((ln : Int) < 3) = true := decide_eq_true (by omega)
          have HCE : Hid (cN bs an (e + 1) = cN bs an e) := by show _ = _; rw [HST.out, if_neg (by omega)]
          go_wp2_with (go_at_call 9; refine HLN.out.mono ?_; rintro e w' ⟨rfl, m2, rfl⟩)
          go_roundg (gk - 1)
          case measure => omega
          case rel => exact ⟨e + 1, k, m + m2, by omega, rfl, by go_num, by rw [HCE.out]; exact HK.out, by simp⟩
        · have t5 : decide ((ln : Int) < 3) = false := decide_eq_false (by omega)
          have HCE : Hid (cN bs an (e + 1) = cN bs an e ++ [e + 1]) := by show _ = _; rw [HST.out, if_pos (by omega)]
          have HLK : Hid (k < L.length ∧ L[k]? = some (e + 1)) := by
            show _ ∧ _
            obtain ⟨r, hr⟩ := HPRE.out (e + 1) (by omega)
            rw [HCE.out] at hr
            rw [← hr, HK.out]
            constructor
            · simp
            · simp
          have hkl := HLK.out.1
          obtain ⟨b3, o3, rfl, _, hc3⟩ := HCS.out (by rw [List.length_map]; omega)
          have c0 : w3.cell? ⟨b3, o3 + k, none⟩ = some (.int .i64 ((e + 1 : Nat) : Int)) := hc3 k _ (by rw [List.getElem?_map, HLK.out.2]; rfl)
          have t6 : decide ((L.length : Int) ≤ (k : Int)) = false := decide_eq_false (by omega)
          have t6' : decide (L.length ≤ k) = false := decide_eq_false (by omega)
          have t7 : (((e : Int) + 1) != ((e : Int) + 1)) = false := by simp
          clear hc3
          go_wp2_with (go_at_call 9; refine HLN.out.mono ?_; rintro e w' ⟨rfl, m2, rfl⟩)
          go_roundg (gk - 1)
          case measure => omega
          case rel => exact ⟨e + 1, k + 1, m + m2, by omega, by go_num, by go_num, by rw [HCE.out, List.length_append, ← HK.out]; rfl, by simp⟩
end Go.Proofs.Ytnkkdjnhnbiiaaa
