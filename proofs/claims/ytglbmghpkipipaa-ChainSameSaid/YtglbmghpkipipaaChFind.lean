/- Layer 35: Find: the best match by chains. -/
import Derived.Test.YtglbmghpkipipaaChMk
import Derived.Test.YtglbmghpkipipaaMaLen
import Derived.WalkMore
namespace Go.Proofs.Ytglbmghpkipipaa
open Go.RowKit

theorem find_end {bs : List UInt8} {an : Nat} {depth : Int} {pv n d : Nat} {xs : List Nat} (ha : an + 3 ≤ bs.length) (hl : bs.length ≤ 32768) (hx : xs = candN bs an (an - pv)) (hp : pv ≤ an) (hf : foldM bs (an : Int) xs = (n, d))
    (hd : ((xs.length : Nat) : Int) ≤ depth ∨ xs = []) (he : pv = 0 ∨ depth - ((xs.length : Nat) : Int) ≤ 0 ∨ n = 258) : bestM bs (an : Int) depth = (n, d) := by
  have hca : cands bs (an : Int) = candN bs an an := by
    rw [cands, if_pos (by omega), Int.toNat_natCast, Nat.min_eq_left (by omega)]
  by_cases h0 : depth ≤ 0
  · have hxs : xs = [] := by
      rcases hd with h | h
      · exact List.eq_nil_of_length_eq_zero (by omega)
      · exact h
    rw [bestM, show depth.toNat = 0 by omega, List.take_zero, ← hf, hxs]
  · have hlen : ((xs.length : Nat) : Int) ≤ depth := by
      rcases hd with h | h
      · exact h
      · rw [h]; simp; omega
    have hpre : xs <+: cands bs (an : Int) := by rw [hx, hca]; exact candN_pre bs an (by omega)
    rw [← hf]
    refine (bestM_end hpre hlen ?_).symm
    rcases he with h | h | h
    · left; rw [hx, h, hca, Nat.sub_zero]
    · right; left; omega
    · right; right; rw [hf]; exact h
theorem find_step {bs : List UInt8} {an q : Nat} (ha : an + 3 ≤ bs.length) (hl : bs.length ≤ 32768) (hq : q + 1 ≤ an) (hh : hv bs q = hv bs an) :
    back bs (hv bs q) q ≤ q ∧ (0 < back bs (hv bs q) q → hv bs (back bs (hv bs q) q - 1) = hv bs an) ∧
    candN bs an (an - back bs (hv bs q) q) = if 3 ≤ lenI bs (an : Int) ((an - q : Nat) : Int) then candN bs an (an - (q + 1)) ++ [an - q] else candN bs an (an - (q + 1)) := by
  have hle := back_le bs (hv bs q) q
  refine ⟨hle, fun h => (back_has bs (hv bs q) q h).trans hh, ?_⟩
  have h1 : candN bs an (an - back bs (hv bs q) q) = candN bs an (an - q) := candN_skip (by omega) hle (fun r hr hrq => by rw [← hh]; exact back_none bs (hv bs q) q r hr hrq)
  have h2 : an - q = (an - (q + 1)) + 1 := by omega
  have h3 : three bs an (an - q) = decide (3 ≤ lenI bs (an : Int) ((an - q : Nat) : Int)) := three_len ha (by omega) (by omega) (by omega)
  rw [h1]
  split
  · rename_i h
    rw [decide_eq_true h, h2] at h3
    rw [h2, candN_yes h3]
  · rename_i h
    rw [decide_eq_false h, h2] at h3
    rw [h2, candN_no h3]
set_option maxHeartbeats 400000 in
theorem cfind_nil (a depth : Int) (w : World) :
    Calls Try.prog 14 #[.pointer none, .int .i64 a, .int .i64 depth] w fun e w' => e = .returned (.tuple #[.int .i64 0, .int .i64 0]) ∧ w = w' := by
  have HP := Lib.hid (prev_nil a w)
  go_enter Try.func14, Try.ntmps14
  go_wp2
  go_step3
  go_wp2_with (go_at_call 17; refine HP.out.mono ?_; rintro e w' ⟨rfl, rfl⟩)
  go_step3
  go_wp2
  go_loopg [6, 7, 9] 0 (fun _ n d th wr => n = .int .i64 0 ∧ d = .int .i64 0 ∧ th = .bool false ∧ wr = w)
  case atStart => exact ⟨rfl, rfl, rfl, rfl⟩
  case round =>
    obtain ⟨rfl, rfl, rfl, rfl⟩ := hrel
    go_wp2
    (first | go_ret2 | (rw [Exit.noGoto_ret]; go_ret2))
    exact ⟨rfl, rfl⟩
set_option maxRecDepth 100000 in
set_option maxHeartbeats 2000000 in
theorem cfind_any (g g0 l c : Nat) (A : Option Addr) (bs : List UInt8) (a depth : Int) (B : Nat) (w : World) (hl : bs.length = l) (hm : l ≤ 2000) (hb : Bytes w B A bs) (h : LCh w g g0 A l c bs) (hdp : -9223372036854775808 ≤ depth ∧ depth ≤ 9223372036854775807) :
    Calls Try.prog 14 #[.pointer (some ⟨g, 0, none⟩), .int .i64 a, .int .i64 depth] w fun e w' => e = .returned (.tuple #[.int .i64 ((bestM bs a depth).1 : Nat), .int .i64 ((bestM bs a depth).2 : Nat)]) ∧ ∃ m, w' = w.drewN m := by
  have HP := Lib.hid (prev_any g g0 l c A bs a w hl (by omega) h)
  by_cases hv0 : 0 ≤ a ∧ a + 3 ≤ (l : Int)
  · obtain ⟨an, rfl⟩ := Int.eq_ofNat_of_zero_le hv0.1
    obtain ⟨p0, hp0⟩ : ∃ p0, prevI bs (an : Int) = p0 := ⟨_, rfl⟩
    rw [hp0] at HP
    rw [prevI_at (by omega)] at hp0
    have han : an + 3 ≤ bs.length := by omega
    have hpl : p0 ≤ an := by rw [← hp0]; exact back_le _ _ _
    have HST : Hid (candN bs an (an - p0) = [] ∧ (0 < p0 → hv bs (p0 - 1) = hv bs an)) := by
      refine ⟨?_, fun h => by rw [← hp0] at h ⊢; exact back_has bs _ _ h⟩
      have := candN_skip (bs := bs) (a := an) (p := an) (q := p0) (Nat.le_refl _) hpl (fun r hr hra => by rw [← hp0] at hr; exact back_none bs _ _ r hr hra)
      rw [this, Nat.sub_self]
      rfl
    have HCH := Lib.hid h
    have HBY := Lib.hid hb
    have HL := Lib.hid hl
    have c0 := cell_of_row w g 0 _ _ _ h.1
    have HAN := Lib.hid han
    have hal : an + 3 ≤ l := by omega
    clear hv0 hp0 h hb hl han
    go_enter Try.func14, Try.ntmps14
    go_wp2
    go_step3
    go_wp2_with (go_at_call 17; refine HP.out.mono ?_; rintro e w' ⟨rfl, rfl⟩)
    go_step3
    go_wp2
    go_loopg [2, 6, 7, 8, 9] p0 (fun gk s2 s6 s7 s8 s9 wr => ∃ (n d m k : Nat) (dep : Int), s2 = .int .i64 dep ∧ s6 = .int .i64 n ∧ s7 = .int .i64 d ∧ s8 = .int .i64 (gk - 1 : Nat) ∧ s9 = .bool (decide (0 < gk)) ∧ wr = w.drewN m ∧
      gk ≤ an ∧ (0 < gk → hv bs (gk - 1) = hv bs an) ∧ (k = (candN bs an (an - gk)).length ∧ foldM bs (an : Int) (candN bs an (an - gk)) = (n, d)) ∧ dep = depth - (k : Int) ∧ ((k : Int) ≤ depth ∨ k = 0) ∧ n ≤ 258)
    case atStart =>
      refine ⟨0, 0, 0, 0, depth, rfl, rfl, rfl, rfl, rfl, rfl, hpl, HST.out.2, ⟨by rw [HST.out.1]; rfl, by rw [HST.out.1]; rfl⟩, by simp, .inr rfl, by omega⟩
    case round =>
      obtain ⟨n, d, m, k, dep, rfl, rfl, rfl, rfl, rfl, rfl, hgl, hgh, hk, hdep, hkd, hn⟩ := hrel
      have HEND : Hid (gk = 0 ∨ dep ≤ 0 ∨ n = 258 → bestM bs (an : Int) depth = (n, d)) := fun he =>
        find_end HAN.out (by have := HL.out; omega) rfl hgl hk.2 (hkd.elim (fun h => .inl (by rw [← hk.1]; exact h)) (fun h => .inr (List.eq_nil_of_length_eq_zero (by rw [← hk.1]; exact h)))) (by rw [← hk.1, ← hdep]; exact he)
      have HK := Lib.hid hk
      have HKD := Lib.hid hkd
      have HGH := Lib.hid hgh
      have HDEP := Lib.hid hdep
      clear hk hkd hgh
      by_cases h0 : gk = 0
      · have HE := Lib.hid (HEND.out (.inl h0))
        have t0 : decide (0 < gk) = false := decide_eq_false (by omega)
        clear hdep HK HGH h0
        go_wp2
        (first | go_ret2 | (rw [Exit.noGoto_ret]; go_ret2))
        exact ⟨by rw [HE.out]; rfl, m, rfl⟩
      · obtain ⟨q, rfl⟩ : ∃ q, gk = q + 1 := ⟨gk - 1, by omega⟩
        by_cases hd0 : dep ≤ 0
        · have HE := Lib.hid (HEND.out (.inr (.inl hd0)))
          have t1 : decide (0 < dep) = false := decide_eq_false (by omega)
          clear hdep HK HGH h0
          go_wp2
          (first | go_ret2 | (rw [Exit.noGoto_ret]; go_ret2))
          exact ⟨by rw [HE.out]; rfl, m, rfl⟩
        · have t1 : decide (0 < dep) = true := decide_eq_true (by omega)
          obtain ⟨x, hx⟩ : ∃ x, an - q = x := ⟨_, rfl⟩
          obtain ⟨ln, hln⟩ : ∃ ln, lenI bs (an : Int) (x : Int) = ln := ⟨_, rfl⟩
          have hsub : (an : Int) - (q : Int) = (x : Int) := by omega
          have hwx : IntKind.i64.wrap (x : Int) = (x : Int) := IntWalk.i64_in _ (by omega)
          have HLN := Lib.hid (mlen_any A l c bs B (an : Int) (x : Int) (w.drewN m) HL.out (by omega) HBY.out)
          rw [hln] at HLN
          have hln2 : ln ≤ 258 := by rw [← hln]; exact lenI_le _ _ _
          by_cases h258 : n = 258
          · have HE := Lib.hid (HEND.out (.inr (.inr h258)))
            have t2 : ((n : Int) == 258) = true := by simp; omega
            have t3 : decide ((32768 : Int) < (x : Int)) = false := decide_eq_false (by omega)
            clear hdep HK HGH h0 hln
            go_wp2_with (go_at_call 27; refine HLN.out.mono ?_; rintro e w' ⟨rfl, m2, rfl⟩)
            (first | go_ret2 | (rw [Exit.noGoto_ret]; go_ret2))
            exact ⟨by rw [HE.out, h258]; rfl, m + m2, rfl⟩
          · have t2 : ((n : Int) == 258) = false := by simp; omega
            have t3 : decide ((32768 : Int) < (x : Int)) = false := decide_eq_false (by omega)
            obtain ⟨pv, hpv⟩ : ∃ pv, back bs (hv bs q) q = pv := ⟨_, rfl⟩
            have hfs := find_step HAN.out (by have := HL.out; omega) hgl (HGH.out (by omega))
            rw [hpv, hx, hln] at hfs
            have HFS := Lib.hid hfs
            have hpq : pv ≤ q := hfs.1
            have hpI : prevI bs (q : Int) = pv := by rw [prevI_at (by have := HAN.out; omega), hpv]
            have HPQ := Lib.hid (fun m' : Nat => prev_any g g0 l c A bs (q : Int) (w.drewN m') HL.out (by omega) (HCH.out.drewN m'))
            rw [hpI] at HPQ
            have hfx : stepM bs (an : Int) (n, d) x = if n < ln then (ln, x) else (n, d) := by rw [stepM, hln]
            have HDP : Hid (¬ dep ≤ 0 ∧ dep = depth - (k : Int)) := ⟨hd0, hdep⟩
            have hdle : dep ≤ 9223372036854775807 := by omega
            clear hpv hfs hdep hpI hln hx
            by_cases h3 : 3 ≤ ln
            · have t4 : decide ((3 : Int) ≤ (ln : Int)) = true := decide_eq_true (by omega)
              have HCE : Hid (candN bs an (an - pv) = candN bs an (an - (q + 1)) ++ [x]) := by show _ = _; rw [HFS.out.2.2, if_pos h3]
              have HCL : Hid (k + 1 = (candN bs an (an - pv)).length) := by show _ = _; rw [HCE.out, List.length_append, ← HK.out.1]; rfl
              have HFF : Hid (foldM bs (an : Int) (candN bs an (an - pv)) = if n < ln then (ln, x) else (n, d)) := by show _ = _; rw [HCE.out, foldM_snoc, HK.out.2, hfx]
              have hwd : IntKind.i64.wrap (dep - 1) = dep - 1 := IntWalk.i64_in _ (by omega)
              clear hfx h0
              by_cases hgt : n < ln
              · have t5 : decide ((n : Int) < (ln : Int)) = true := decide_eq_true (by omega)
                go_wp2_with (first | (go_at_call 27; refine HLN.out.mono ?_; rintro e w' ⟨rfl, m2, rfl⟩) | (go_at_call 17; refine (HPQ.out (m + m2)).mono ?_; rintro e w' ⟨rfl, rfl⟩))
                go_roundg pv
                case measure => omega
                case rel => exact ⟨ln, x, m + m2, k + 1, dep - 1, rfl, by go_num, by go_num, rfl, rfl, rfl, by omega, HFS.out.2.1, ⟨HCL.out, by rw [HFF.out, if_pos hgt]⟩, by have := HDEP.out; omega, by have := HKD.out; have := HDP.out; omega, by omega⟩
              · have t5 : decide ((n : Int) < (ln : Int)) = false := decide_eq_false (by omega)
                go_wp2_with (first | (go_at_call 27; refine HLN.out.mono ?_; rintro e w' ⟨rfl, m2, rfl⟩) | (go_at_call 17; refine (HPQ.out (m + m2)).mono ?_; rintro e w' ⟨rfl, rfl⟩))
                go_roundg pv
                case measure => omega
                case rel => exact ⟨n, d, m + m2, k + 1, dep - 1, rfl, by go_num, by go_num, rfl, rfl, rfl, by omega, HFS.out.2.1, ⟨HCL.out, by rw [HFF.out, if_neg hgt]⟩, by have := HDEP.out; omega, by have := HKD.out; have := HDP.out; omega, by omega⟩
            · have t4 : decide ((3 : Int) ≤ (ln : Int)) = false := decide_eq_false (by omega)
              have HCE : Hid (candN bs an (an - pv) = candN bs an (an - (q + 1))) := by show _ = _; rw [HFS.out.2.2, if_neg h3]
              have HCL : Hid (k = (candN bs an (an - pv)).length) := by show _ = _; rw [HCE.out]; exact HK.out.1
              have HFF : Hid (foldM bs (an : Int) (candN bs an (an - pv)) = (n, d)) := by show _ = _; rw [HCE.out]; exact HK.out.2
              clear hfx h0
              go_wp2_with (first | (go_at_call 27; refine HLN.out.mono ?_; rintro e w' ⟨rfl, m2, rfl⟩) | (go_at_call 17; refine (HPQ.out (m + m2)).mono ?_; rintro e w' ⟨rfl, rfl⟩))
              go_roundg pv
              case measure => omega
              case rel => exact ⟨n, d, m + m2, k, dep, rfl, by go_num, by go_num, rfl, rfl, rfl, by omega, HFS.out.2.1, ⟨HCL.out, HFF.out⟩, by have := HDEP.out; omega, by have := HKD.out; have := HDP.out; omega, by omega⟩
  · have hp0 : prevI bs a = 0 := prevI_no (by rw [hl]; exact hv0)
    have HBM : Hid (bestM bs a depth = (0, 0)) := by
      show _ = _
      rw [bestM, cands, if_neg (by rw [hl]; exact hv0), List.take_nil]
      rfl
    rw [hp0] at HP
    clear h hb hl hv0 hp0
    go_enter Try.func14, Try.ntmps14
    go_wp2
    go_step3
    go_wp2_with (go_at_call 17; refine HP.out.mono ?_; rintro e w' ⟨rfl, rfl⟩)
    go_step3
    go_wp2
    go_loopg [6, 7, 9] 0 (fun _ n d th wr => n = .int .i64 0 ∧ d = .int .i64 0 ∧ th = .bool false ∧ wr = w)
    case atStart => exact ⟨rfl, rfl, rfl, rfl⟩
    case round =>
      obtain ⟨rfl, rfl, rfl, rfl⟩ := hrel
      go_wp2
      (first | go_ret2 | (rw [Exit.noGoto_ret]; go_ret2))
      exact ⟨by rw [HBM.out]; rfl, 0, rfl⟩
end Go.Proofs.Ytglbmghpkipipaa
