/- Layer 34: a table is made. -/
import Derived.Test.YtnobeipabfdkjaaQkAddN
import Derived.Test.YtnobeipabfdkjaaQkOrd
import Derived.Test.YtnobeipabfdkjaaCa8
namespace Go.Proofs.Ytnobeipabfdkjaa
open Go.RowKit Go.Maps

/-- A code is added, whichever way. -/
theorem add_any (tb g m W cnt base : Nat) (q : QS) (os : List Cd) (c : Cd) (blk : Nat → Nat) (D : DataW Unit) (w : World) (h : LT w tb g m W q blk D cnt base) (hW : W ≤ 15) (hs : Spec W os q) (ho : Okay (os ++ [c])) (hbase : base ≤ w.heap.size) (hcnt : cnt ≤ 100000) :
    Calls Try.prog 28 #[.pointer (some ⟨tb, 0, none⟩), .int .i64 (c.t : Int), .agg #[.int .i64 (c.s : Int), .int .i64 (c.n : Int), .bool false]] w
      fun e w' => e = .returned (.tuple #[]) ∧ AddPost w w' tb g m W q D cnt base c.t c.s c.n := by
  obtain ⟨_, ⟨h1, h15, ht⟩, hfr⟩ := ho.front
  by_cases hn : c.n ≤ W
  · exact add_low tb g m W c.t c.s c.n cnt base q blk D w h hW ht hn
  · have hlow : ∀ a ∈ os, ¬ a.n ≤ W := fun a ha h => by have := (hfr a ha).1; omega
    have hx0 : c.t % 2 ^ W < 2 ^ W := Nat.mod_lt _ (Nat.two_pow_pos W)
    by_cases hd : ∃ a ∈ os, a.deepAt W (c.t % 2 ^ W)
    · obtain ⟨a0, h0, hd0, hmax, hr, L, hL, hLl, hbh⟩ := hs.deep _ hx0 hd
      refine add_old tb g m W c.t c.s c.n a0.n cnt base q blk D L w h hW h15 ht (by omega) hr hL ?_
      rw [hLl]
      obtain ⟨s, rfl⟩ : ∃ s, os = s := ⟨_, rfl⟩
      have := (ho.front.1.bd a0 h0).2.1
      exact Nat.le_trans (Nat.pow_le_pow_right (by decide) (show a0.n - W ≤ 15 by omega)) (by decide)
    · have hd' : ∀ a ∈ os, ¬ a.deepAt W (c.t % 2 ^ W) := fun a ha h => hd ⟨a, ha, h⟩
      exact add_new tb g m W c.t c.s c.n cnt base q blk D w h hW h15 ht (by omega) (hs.none_ _ hx0 hd' (fun a ha h => absurd h (hlow a ha))) (hs.bare _ hd') hbase hcnt
/-- How many rows are laid behind, the codes being added. -/
def pF (W : Nat) : List Cd → QS × Nat := List.foldl (fun p c => (p.1.add W c.t c.s c.n, p.2 + moreT W p.1 c.t c.n)) (⟨List.replicate (2 ^ W) r0, fun _ => none⟩, 0)
theorem pF_snoc (W : Nat) (os : List Cd) (c : Cd) : pF W (os ++ [c]) = ((pF W os).1.add W c.t c.s c.n, (pF W os).2 + moreT W (pF W os).1 c.t c.n) := by unfold pF; rw [List.foldl_append]; rfl
theorem pF_fst (W : Nat) (os : List Cd) : (pF W os).1 = qF W os := by
  have key : ∀ n, n ≤ os.length → (pF W (os.take n)).1 = qF W (os.take n) := by
    intro n
    induction n with
    | zero => intro _; rfl
    | succ n ih =>
      intro hn
      obtain ⟨c, hc⟩ : ∃ c, os[n]? = some c := ⟨_, List.getElem?_eq_getElem (by omega)⟩
      rw [take_snoc' hc, pF_snoc, qF_snoc, ih (by omega)]
  have h2 := key os.length (Nat.le_refl _)
  rwa [List.take_length] at h2
def totF (W : Nat) (os : List Cd) : Nat := (pF W os).2
theorem totF_snoc (W : Nat) (os : List Cd) (c : Cd) : totF W (os ++ [c]) = totF W os + moreT W (qF W os) c.t c.n := by unfold totF; rw [pF_snoc, pF_fst]
/-- A width as it counts. -/
def wid (k : Int) : Nat := (min (max k 1) 15).toNat
theorem wid_ways (k : Int) : (k < 1 ∧ wid k = 1) ∨ (15 < k ∧ wid k = 15) ∨ ((wid k : Int) = k ∧ 1 ≤ wid k ∧ wid k ≤ 15) := by unfold wid; omega
def allC (zs : List Int) : List Cd := (dnL zs 15).map (cd zs)
theorem qnew_no (A : Option Addr) (l c : Nat) (zs : List Int) (k : Int) (B : Nat) (w : World) (hl : zs.length = l) (hm : l ≤ 9223372036854775807) (hb : Cells w B A (zs.map ic)) (hr : caR zs = false) :
    Calls Try.prog 11 #[.slice A l c, .int .i64 k] w fun e w' => e = .returned (.tuple #[.pointer none, .int .i64 13]) ∧ w = w' := by
  have HV := Lib.hid (values_no A l c zs B w hl hm hb hr)
  clear hr hb hl
  go_enter Try.func11, Try.ntmps11
  go_wp2_with (go_at_call 27; refine HV.out.mono ?_; rintro e w' ⟨rfl, rfl⟩)
  go_ret2
  exact ⟨rfl, rfl⟩
set_option maxRecDepth 100000 in
set_option maxHeartbeats 400000 in
theorem qnew_mid (A : Option Addr) (l c : Nat) (zs : List Int) (k : Int) (W : Nat) (B : Nat) (w : World) (hl : zs.length = l) (hm : l ≤ 320) (hb : Cells w B A (zs.map ic)) (hB : B ≤ w.heap.size) (hr : caR zs = true) (hkW : k = (W : Int)) (hW1 : 1 ≤ W) (hW2 : W ≤ 15) :
    Calls Try.prog 11 #[.slice A l c, .int .i64 k] w fun e w' => ∃ tb g m base cnt blk D, e = .returned (.tuple #[.pointer (some ⟨tb, 0, none⟩), .int .i64 0]) ∧ LT w' tb g m W (qF W (allC zs)) blk D cnt base ∧ sumD D = totF W (allC zs) ∧ Below w.heap.size w w' ∧ w.heap.size ≤ base ∧ base ≤ tb := by
  have HV := Lib.hid (values_any A l c zs B w hl (by omega) hb hB hr)
  have HL := Lib.hid hl
  have HBZ := Lib.hid hb
  have HBB := Lib.hid hB
  have HR := Lib.hid hr
  have hpW : (2 : Nat) ^ W ≤ 32768 := Nat.le_trans (Nat.pow_le_pow_right (by decide) hW2) (by decide)
  obtain ⟨N, hN⟩ : ∃ N, 2 ^ W = N := ⟨_, rfl⟩
  rw [hN] at hpW
  have hsh : (2 : Int) ^ W = (N : Int) := by rw [← hN]; simp
  subst hkW
  have hmm := @run_makeMap Try.prog
  have HMK := Lib.hid (fun W' => make_rows N (by omega) W')
  clear hb hl hB hr
  go_enter Try.func11, Try.ntmps11
  go_upto_region 4 with (first
    | (go_at_call 27; refine HV.out.mono ?_; rintro e w1 ⟨rfl, hi1, hb1⟩; have HI1 := Lib.hid hi1; have HB1 := Lib.hid hb1; clear hi1 hb1))
  have mk : (Instr.makeSlice 57 (.int .i64 (N : Nat)) (.int .i64 (N : Nat))).run Try.prog w1 = .ok (.slice (some ⟨w1.heap.size, 0, none⟩) N N) (w1.alloc (.cells (madeCells #[.int .i64 0, .int .i64 0, .bool false] (N * 3)) 35)) := HMK.out w1
  obtain ⟨W2, hW2⟩ : ∃ W2, ((w1.alloc (.cells (madeCells #[.int .i64 0, .int .i64 0, .bool false] (N * 3)) 35)).alloc (.map #[] 0)).alloc (.cells #[.int .i64 (W : Nat), .slice (some ⟨w1.heap.size, 0, none⟩) N N, .map (some (w1.heap.size + 1))] 60) = W2 := ⟨_, rfl⟩
  have HLT : Hid (LT W2 (w1.heap.size + 1 + 1) w1.heap.size (w1.heap.size + 1) W (qF W ((dnL zs 0).map (cd zs))) (fun _ => 0) (.map []) 0 w1.heap.size) := by
    have hmade : RB (w1.alloc (.cells (madeCells #[.int .i64 0, .int .i64 0, .bool false] (N * 3)) 35)) w1.heap.size (List.replicate N r0) := made_rows w1 N
    have hom := World.ownsMap_made (w1.alloc (.cells (madeCells #[.int .i64 0, .int .i64 0, .bool false] (N * 3)) 35)) Try.prog 3 slR
    have hz1 : (w1.alloc (.cells (madeCells #[.int .i64 0, .int .i64 0, .bool false] (N * 3)) 35)).heap.size = w1.heap.size + 1 := by simp
    rw [hz1] at hom
    show LT _ _ _ _ _ _ _ _ _ _
    rw [← hW2]
    refine ⟨?_, ?_, ?_, hom.alloc _, fun x _ => rfl, fun x L hx => (by cases hx), fun x y L L' hx _ _ => (by cases hx), ⟨by omega, by omega, by omega, Nat.le_refl _, by omega, by omega⟩⟩
    · have h := heap_alloc_new ((w1.alloc (.cells (madeCells #[.int .i64 0, .int .i64 0, .bool false] (N * 3)) 35)).alloc (.map #[] 0)) (.cells #[.int .i64 (W : Nat), .slice (some ⟨w1.heap.size, 0, none⟩) N N, .map (some (w1.heap.size + 1))] 60)
      simp only [World.size_alloc] at h
      rw [hN]
      exact h
    · show (List.replicate (2 ^ W) r0).length = 2 ^ W
      simp
    · show RB _ _ (List.replicate (2 ^ W) r0)
      rw [hN]
      exact (Below.heap_alloc _ _ _ (by simp; omega)).trans ((Below.heap_alloc _ _ _ (by simp)).trans hmade)
  have HM2 : Hid (Mod (tbS w1.heap.size) w1 W2) := by show Mod _ _ _; rw [← hW2]; exact (((Mod.refl _ w1).alloc _).alloc _).alloc _
  have HSZ : Hid (w.heap.size < w1.heap.size) := ib_lt HI1.out
  go_wp2
  clear mk hmm HMK hW2
  go_loopg [9] 15 (fun gk nv wr => ∃ (d cnt : Nat) (blk : Nat → Nat) (D : DataW Unit), d + gk = 15 ∧ nv = .int .i64 ((15 - d : Nat) : Int) ∧ LT wr (w1.heap.size + 1 + 1) w1.heap.size (w1.heap.size + 1) W (qF W ((dnL zs d).map (cd zs))) blk D cnt w1.heap.size ∧ sumD D = totF W ((dnL zs d).map (cd zs)) ∧ cnt ≤ d * 400 ∧ Mod (tbS w1.heap.size) w1 wr)
  case atStart => exact ⟨0, 0, _, _, by omega, rfl, HLT.out, rfl, by omega, HM2.out⟩
  case round =>
    obtain ⟨d, cnt, blk, D, hd, rfl, hlt, hsum, hcnt, hmo⟩ := hrel
    have HLT1 := Lib.hid hlt
    have HSUM := Lib.hid hsum
    have HMO := Lib.hid hmo
    have hd14 : gk ≠ 0 → d ≤ 14 := by omega
    have HCNT := Lib.hid hcnt
    obtain ⟨n, hn⟩ : ∃ n, 15 - d = n := ⟨_, rfl⟩
    rw [hn]
    clear hlt hsum hmo HLT HM2 hcnt
    by_cases h0 : n = 0
    · obtain rfl : d = 15 := by omega
      subst h0
      go_wp2
      go_ret2
      refine ⟨w1.heap.size + 1 + 1, rfl, w1.heap.size, w1.heap.size + 1, w1.heap.size, cnt, blk, D, HLT1.out, HSUM.out, HMO.out.below HB1.out HB1.out.size (fun j hj => Nat.le_trans HB1.out.size hj), HB1.out.size, by omega⟩
    · have hdd : d ≤ 14 := by omega
      obtain ⟨GK, hGK⟩ : ∃ GK, GK = gk := ⟨_, rfl⟩
      subst hGK
      have hG1 : 1 ≤ GK := by omega
      have hn15 : n ≤ 15 := by omega
      have HND : Hid (15 - d = n ∧ d + GK = 15) := ⟨hn, hd⟩
      have u0 : decide (0 < n) = true := decide_eq_true (by omega)
      clear hn hd hd14
      go_wp2
      go_loopg [36] l (fun gk iv wr => ∃ (j cnt : Nat) (blk : Nat → Nat) (D : DataW Unit), j + gk = l ∧ iv = .int .i64 (j : Int) ∧ LT wr (w1.heap.size + 1 + 1) w1.heap.size (w1.heap.size + 1) W (qF W ((dnK zs d j).map (cd zs))) blk D cnt w1.heap.size ∧ sumD D = totF W ((dnK zs d j).map (cd zs)) ∧ cnt ≤ d * 400 + j ∧ Mod (tbS w1.heap.size) w1 wr)
      case atStart => exact ⟨0, cnt, blk, D, by omega, rfl, by rw [dnK_zero]; exact HLT1.out, by rw [dnK_zero]; exact HSUM.out, by have := HCNT.out; omega, HMO.out⟩
      case round =>
        obtain ⟨j, cnt2, blk2, D2, hj, rfl, hlt, hsum, hcnt, hmo⟩ := hrel
        have HLT2 := Lib.hid hlt
        have HSUM2 := Lib.hid hsum
        have HMO2 := Lib.hid hmo
        have HCNT2 := Lib.hid hcnt
        clear hlt hsum hmo hcnt HLT1 HSUM HMO HCNT
        by_cases hjl : j < l
        · obtain ⟨z, hz⟩ : ∃ z, zs[j]? = some z := ⟨_, List.getElem?_eq_getElem (by rw [HL.out]; exact hjl)⟩
          have HBW := Lib.hid (HMO2.out.below HB1.out HB1.out.size (fun j hj => Nat.le_trans HB1.out.size hj))
          obtain ⟨b, o, rfl, hbB, hc⟩ := (HBZ.out.below HBW.out HBB.out) (by rw [List.length_map, HL.out]; omega)
          have c0 : wr.cell? ⟨b, o + j, none⟩ = some (.int .i64 z) := hc j _ (by rw [List.getElem?_map, hz]; rfl)
          have HIB : Hid (IntBlock wr w.heap.size (caV zs)) := HMO2.out.keep HI1.out (fun h => by have := HSZ.out; exact absurd h (by show ¬ w1.heap.size ≤ w.heap.size; omega))
          clear hc hbB
          by_cases hzn : z = (n : Int)
          · subst hzn
            obtain ⟨v, kk, hy⟩ := sym_of hz (by omega) hn15
            have hvl := hy.lt HR.out
            have hpn : (2 : Nat) ^ n ≤ 32768 := Nat.le_trans (Nat.pow_le_pow_right (by decide) hn15) (by decide)
            have hv15 : v < 32768 := by omega
            have c1 : wr.cell? ⟨w.heap.size, j, none⟩ = some (.int .i64 (v : Int)) := ib_cell HIB.out hy.val
            have HQT := Lib.hid (fun W' => qturn_any (v : Int) (n : Int) W' (by omega))
            have e1 : ((v : Int) % 65536).toNat = v := by omega
            have e2 : clampW (n : Int) = n := by unfold clampW; omega
            rw [e1, e2] at HQT
            have HCD := Lib.hid (cd_sym hy)
            have HDK : Hid (dnK zs d (j + 1) = dnK zs d j ++ [j]) := by
              show _ = _
              unfold dnK
              rw [HND.out.1, ixs_yes hz, List.append_assoc]
            have hok := okay_dnK (k := j + 1) HR.out hdd
            rw [HDK.out, List.map_append, List.map_singleton, HCD.out] at hok
            have HOK := Lib.hid hok
            have HSPEC := Lib.hid (spec_qF W _ hok.front.1)
            have HADD := Lib.hid (fun (m' : Nat) => add_any (w1.heap.size + 1 + 1) w1.heap.size (w1.heap.size + 1) W cnt2 w1.heap.size _ _ ⟨j, n, turnN v n⟩ blk2 D2 (wr.drewN m') (HLT2.out.drewN m') (by omega) HSPEC.out HOK.out HMO2.out.size (by have := HCNT2.out; have := hdd; omega))
            have HQF : Hid (qF W ((dnK zs d (j + 1)).map (cd zs)) = (qF W ((dnK zs d j).map (cd zs))).add W (turnN v n) j n ∧ totF W ((dnK zs d (j + 1)).map (cd zs)) = totF W ((dnK zs d j).map (cd zs)) + moreT W (qF W ((dnK zs d j).map (cd zs))) (turnN v n) n) := by
              constructor
              · rw [HDK.out, List.map_append, List.map_singleton, HCD.out, qF_snoc]
              · rw [HDK.out, List.map_append, List.map_singleton, HCD.out, totF_snoc]
            have htl := turnN_lt v n
            have hzz : ((n : Int) == (n : Int)) = true := by simp
            clear hz hy hok e1 e2
            go_wp2_with (first
              | (go_at_call 8; refine (HQT.out _).mono ?_; rintro e w3 ⟨rfl, mt, rfl⟩)
              | (go_at_call 28; refine (HADD.out mt).mono ?_; rintro e w4 ⟨rfl, blk4, D4, hlt4, hsum4, hmod4⟩; have HLT4 := Lib.hid hlt4; have HSUM4 := Lib.hid hsum4; have HMOD4 := Lib.hid hmod4; clear hlt4 hsum4 hmod4))
            go_roundg (gk - 1)
            case measure => omega
            case rel => exact ⟨j + 1, cnt2 + 1, blk4, D4, by omega, by go_num, by rw [HQF.out.1]; exact HLT4.out, by rw [HSUM4.out, HQF.out.2, HSUM2.out], by have := HCNT2.out; omega, (HMO2.out.drewN mt).then_ HMOD4.out⟩
          · have HDK : Hid (dnK zs d (j + 1) = dnK zs d j) := by
              show _ = _
              unfold dnK
              rw [HND.out.1, ixs_no (by rw [hz]; intro e; injection e with e; exact hzn e)]
            have hzz : (z == (n : Int)) = false := by simp [hzn]
            clear hz
            go_wp2
            go_roundg (gk - 1)
            case measure => omega
            case rel => exact ⟨j + 1, cnt2, blk2, D2, by omega, by go_num, by rw [HDK.out]; exact HLT2.out, by rw [HDK.out]; exact HSUM2.out, by have := HCNT2.out; omega, HMO2.out⟩
        · obtain rfl : j = l := by omega
          have HDF : Hid (dnK zs d j = dnL zs (d + 1)) := by show _ = _; rw [← HL.out]; exact dnK_full zs d
          rw [HDF.out] at HLT2 HSUM2
          go_wp2
          go_roundg (GK - 1)
          case measure => omega
          case rel => exact ⟨d + 1, cnt2, blk2, D2, by have := HND.out; omega, by have := HND.out; go_num, HLT2.out, HSUM2.out, by have := HCNT2.out; omega, HMO2.out⟩
set_option maxRecDepth 100000 in
set_option maxHeartbeats 400000 in
theorem qnew_low (A : Option Addr) (l c : Nat) (zs : List Int) (k : Int) (B : Nat) (w : World) (hl : zs.length = l) (hm : l ≤ 320) (hb : Cells w B A (zs.map ic)) (hB : B ≤ w.heap.size) (hr : caR zs = true) (hk : k < 1) :
    Calls Try.prog 11 #[.slice A l c, .int .i64 k] w fun e w' => ∃ tb g m base cnt blk D, e = .returned (.tuple #[.pointer (some ⟨tb, 0, none⟩), .int .i64 0]) ∧ LT w' tb g m 1 (qF 1 (allC zs)) blk D cnt base ∧ sumD D = totF 1 (allC zs) ∧ Below w.heap.size w w' ∧ w.heap.size ≤ base ∧ base ≤ tb := by
  have HV := Lib.hid (values_any A l c zs B w hl (by omega) hb hB hr)
  have HL := Lib.hid hl
  have HBZ := Lib.hid hb
  have HBB := Lib.hid hB
  have HR := Lib.hid hr
  have hmm := @run_makeMap Try.prog
  have HMK := Lib.hid (fun W' => make_rows 2 (by omega) W')
  clear hb hl hB hr
  go_enter Try.func11, Try.ntmps11
  go_upto_region 4 with (first
    | (go_at_call 27; refine HV.out.mono ?_; rintro e w1 ⟨rfl, hi1, hb1⟩; have HI1 := Lib.hid hi1; have HB1 := Lib.hid hb1; clear hi1 hb1))
  have mk : (Instr.makeSlice 57 (.int .i64 2) (.int .i64 2)).run Try.prog w1 = .ok (.slice (some ⟨w1.heap.size, 0, none⟩) 2 2) (w1.alloc (.cells (madeCells #[.int .i64 0, .int .i64 0, .bool false] (6)) 35)) := HMK.out w1
  obtain ⟨W2, hW2⟩ : ∃ W2, ((w1.alloc (.cells (madeCells #[.int .i64 0, .int .i64 0, .bool false] (6)) 35)).alloc (.map #[] 0)).alloc (.cells #[.int .i64 1, .slice (some ⟨w1.heap.size, 0, none⟩) 2 2, .map (some (w1.heap.size + 1))] 60) = W2 := ⟨_, rfl⟩
  have HLT : Hid (LT W2 (w1.heap.size + 1 + 1) w1.heap.size (w1.heap.size + 1) 1 (qF 1 ((dnL zs 0).map (cd zs))) (fun _ => 0) (.map []) 0 w1.heap.size) := by
    have hmade : RB (w1.alloc (.cells (madeCells #[.int .i64 0, .int .i64 0, .bool false] (6)) 35)) w1.heap.size (List.replicate 2 r0) := made_rows w1 2
    have hom := World.ownsMap_made (w1.alloc (.cells (madeCells #[.int .i64 0, .int .i64 0, .bool false] (6)) 35)) Try.prog 3 slR
    have hz1 : (w1.alloc (.cells (madeCells #[.int .i64 0, .int .i64 0, .bool false] (6)) 35)).heap.size = w1.heap.size + 1 := by simp
    rw [hz1] at hom
    show LT _ _ _ _ _ _ _ _ _ _
    rw [← hW2]
    refine ⟨?_, ?_, ?_, hom.alloc _, fun x _ => rfl, fun x L hx => (by cases hx), fun x y L L' hx _ _ => (by cases hx), ⟨by omega, by omega, by omega, Nat.le_refl _, by omega, by omega⟩⟩
    · have h := heap_alloc_new ((w1.alloc (.cells (madeCells #[.int .i64 0, .int .i64 0, .bool false] (6)) 35)).alloc (.map #[] 0)) (.cells #[.int .i64 1, .slice (some ⟨w1.heap.size, 0, none⟩) 2 2, .map (some (w1.heap.size + 1))] 60)
      simp only [World.size_alloc] at h
      skip
      exact h
    · show (List.replicate (2 ^ 1) r0).length = 2 ^ 1
      simp
    · show RB _ _ (List.replicate (2 ^ 1) r0)
      rw [show 2 ^ 1 = 2 by decide]
      exact (Below.heap_alloc _ _ _ (by simp; omega)).trans ((Below.heap_alloc _ _ _ (by simp)).trans hmade)
  have HM2 : Hid (Mod (tbS w1.heap.size) w1 W2) := by show Mod _ _ _; rw [← hW2]; exact (((Mod.refl _ w1).alloc _).alloc _).alloc _
  have HSZ : Hid (w.heap.size < w1.heap.size) := ib_lt HI1.out
  go_wp2
  clear mk hmm HMK hW2
  go_loopg [9] 15 (fun gk nv wr => ∃ (d cnt : Nat) (blk : Nat → Nat) (D : DataW Unit), d + gk = 15 ∧ nv = .int .i64 ((15 - d : Nat) : Int) ∧ LT wr (w1.heap.size + 1 + 1) w1.heap.size (w1.heap.size + 1) 1 (qF 1 ((dnL zs d).map (cd zs))) blk D cnt w1.heap.size ∧ sumD D = totF 1 ((dnL zs d).map (cd zs)) ∧ cnt ≤ d * 400 ∧ Mod (tbS w1.heap.size) w1 wr)
  case atStart => exact ⟨0, 0, _, _, by omega, rfl, HLT.out, rfl, by omega, HM2.out⟩
  case round =>
    obtain ⟨d, cnt, blk, D, hd, rfl, hlt, hsum, hcnt, hmo⟩ := hrel
    have HLT1 := Lib.hid hlt
    have HSUM := Lib.hid hsum
    have HMO := Lib.hid hmo
    have hd14 : gk ≠ 0 → d ≤ 14 := by omega
    have HCNT := Lib.hid hcnt
    obtain ⟨n, hn⟩ : ∃ n, 15 - d = n := ⟨_, rfl⟩
    rw [hn]
    clear hlt hsum hmo HLT HM2 hcnt
    by_cases h0 : n = 0
    · obtain rfl : d = 15 := by omega
      subst h0
      go_wp2
      go_ret2
      refine ⟨w1.heap.size + 1 + 1, rfl, w1.heap.size, w1.heap.size + 1, w1.heap.size, cnt, blk, D, HLT1.out, HSUM.out, HMO.out.below HB1.out HB1.out.size (fun j hj => Nat.le_trans HB1.out.size hj), HB1.out.size, by omega⟩
    · have hdd : d ≤ 14 := by omega
      obtain ⟨GK, hGK⟩ : ∃ GK, GK = gk := ⟨_, rfl⟩
      subst hGK
      have hG1 : 1 ≤ GK := by omega
      have hn15 : n ≤ 15 := by omega
      have HND : Hid (15 - d = n ∧ d + GK = 15) := ⟨hn, hd⟩
      have u0 : decide (0 < n) = true := decide_eq_true (by omega)
      clear hn hd hd14
      go_wp2
      go_loopg [36] l (fun gk iv wr => ∃ (j cnt : Nat) (blk : Nat → Nat) (D : DataW Unit), j + gk = l ∧ iv = .int .i64 (j : Int) ∧ LT wr (w1.heap.size + 1 + 1) w1.heap.size (w1.heap.size + 1) 1 (qF 1 ((dnK zs d j).map (cd zs))) blk D cnt w1.heap.size ∧ sumD D = totF 1 ((dnK zs d j).map (cd zs)) ∧ cnt ≤ d * 400 + j ∧ Mod (tbS w1.heap.size) w1 wr)
      case atStart => exact ⟨0, cnt, blk, D, by omega, rfl, by rw [dnK_zero]; exact HLT1.out, by rw [dnK_zero]; exact HSUM.out, by have := HCNT.out; omega, HMO.out⟩
      case round =>
        obtain ⟨j, cnt2, blk2, D2, hj, rfl, hlt, hsum, hcnt, hmo⟩ := hrel
        have HLT2 := Lib.hid hlt
        have HSUM2 := Lib.hid hsum
        have HMO2 := Lib.hid hmo
        have HCNT2 := Lib.hid hcnt
        clear hlt hsum hmo hcnt HLT1 HSUM HMO HCNT
        by_cases hjl : j < l
        · obtain ⟨z, hz⟩ : ∃ z, zs[j]? = some z := ⟨_, List.getElem?_eq_getElem (by rw [HL.out]; exact hjl)⟩
          have HBW := Lib.hid (HMO2.out.below HB1.out HB1.out.size (fun j hj => Nat.le_trans HB1.out.size hj))
          obtain ⟨b, o, rfl, hbB, hc⟩ := (HBZ.out.below HBW.out HBB.out) (by rw [List.length_map, HL.out]; omega)
          have c0 : wr.cell? ⟨b, o + j, none⟩ = some (.int .i64 z) := hc j _ (by rw [List.getElem?_map, hz]; rfl)
          have HIB : Hid (IntBlock wr w.heap.size (caV zs)) := HMO2.out.keep HI1.out (fun h => by have := HSZ.out; exact absurd h (by show ¬ w1.heap.size ≤ w.heap.size; omega))
          clear hc hbB
          by_cases hzn : z = (n : Int)
          · subst hzn
            obtain ⟨v, kk, hy⟩ := sym_of hz (by omega) hn15
            have hvl := hy.lt HR.out
            have hpn : (2 : Nat) ^ n ≤ 32768 := Nat.le_trans (Nat.pow_le_pow_right (by decide) hn15) (by decide)
            have hv15 : v < 32768 := by omega
            have c1 : wr.cell? ⟨w.heap.size, j, none⟩ = some (.int .i64 (v : Int)) := ib_cell HIB.out hy.val
            have HQT := Lib.hid (fun W' => qturn_any (v : Int) (n : Int) W' (by omega))
            have e1 : ((v : Int) % 65536).toNat = v := by omega
            have e2 : clampW (n : Int) = n := by unfold clampW; omega
            rw [e1, e2] at HQT
            have HCD := Lib.hid (cd_sym hy)
            have HDK : Hid (dnK zs d (j + 1) = dnK zs d j ++ [j]) := by
              show _ = _
              unfold dnK
              rw [HND.out.1, ixs_yes hz, List.append_assoc]
            have hok := okay_dnK (k := j + 1) HR.out hdd
            rw [HDK.out, List.map_append, List.map_singleton, HCD.out] at hok
            have HOK := Lib.hid hok
            have HSPEC := Lib.hid (spec_qF 1 _ hok.front.1)
            have HADD := Lib.hid (fun (m' : Nat) => add_any (w1.heap.size + 1 + 1) w1.heap.size (w1.heap.size + 1) 1 cnt2 w1.heap.size _ _ ⟨j, n, turnN v n⟩ blk2 D2 (wr.drewN m') (HLT2.out.drewN m') (by omega) HSPEC.out HOK.out HMO2.out.size (by have := HCNT2.out; have := hdd; omega))
            have HQF : Hid (qF 1 ((dnK zs d (j + 1)).map (cd zs)) = (qF 1 ((dnK zs d j).map (cd zs))).add 1 (turnN v n) j n ∧ totF 1 ((dnK zs d (j + 1)).map (cd zs)) = totF 1 ((dnK zs d j).map (cd zs)) + moreT 1 (qF 1 ((dnK zs d j).map (cd zs))) (turnN v n) n) := by
              constructor
              · rw [HDK.out, List.map_append, List.map_singleton, HCD.out, qF_snoc]
              · rw [HDK.out, List.map_append, List.map_singleton, HCD.out, totF_snoc]
            have htl := turnN_lt v n
            have hzz : ((n : Int) == (n : Int)) = true := by simp
            clear hz hy hok e1 e2
            go_wp2_with (first
              | (go_at_call 8; refine (HQT.out _).mono ?_; rintro e w3 ⟨rfl, mt, rfl⟩)
              | (go_at_call 28; refine (HADD.out mt).mono ?_; rintro e w4 ⟨rfl, blk4, D4, hlt4, hsum4, hmod4⟩; have HLT4 := Lib.hid hlt4; have HSUM4 := Lib.hid hsum4; have HMOD4 := Lib.hid hmod4; clear hlt4 hsum4 hmod4))
            go_roundg (gk - 1)
            case measure => omega
            case rel => exact ⟨j + 1, cnt2 + 1, blk4, D4, by omega, by go_num, by rw [HQF.out.1]; exact HLT4.out, by rw [HSUM4.out, HQF.out.2, HSUM2.out], by have := HCNT2.out; omega, (HMO2.out.drewN mt).then_ HMOD4.out⟩
          · have HDK : Hid (dnK zs d (j + 1) = dnK zs d j) := by
              show _ = _
              unfold dnK
              rw [HND.out.1, ixs_no (by rw [hz]; intro e; injection e with e; exact hzn e)]
            have hzz : (z == (n : Int)) = false := by simp [hzn]
            clear hz
            go_wp2
            go_roundg (gk - 1)
            case measure => omega
            case rel => exact ⟨j + 1, cnt2, blk2, D2, by omega, by go_num, by rw [HDK.out]; exact HLT2.out, by rw [HDK.out]; exact HSUM2.out, by have := HCNT2.out; omega, HMO2.out⟩
        · obtain rfl : j = l := by omega
          have HDF : Hid (dnK zs d j = dnL zs (d + 1)) := by show _ = _; rw [← HL.out]; exact dnK_full zs d
          rw [HDF.out] at HLT2 HSUM2
          go_wp2
          go_roundg (GK - 1)
          case measure => omega
          case rel => exact ⟨d + 1, cnt2, blk2, D2, by have := HND.out; omega, by have := HND.out; go_num, HLT2.out, HSUM2.out, by have := HCNT2.out; omega, HMO2.out⟩
set_option maxRecDepth 100000 in
set_option maxHeartbeats 400000 in
theorem qnew_high (A : Option Addr) (l c : Nat) (zs : List Int) (k : Int) (B : Nat) (w : World) (hl : zs.length = l) (hm : l ≤ 320) (hb : Cells w B A (zs.map ic)) (hB : B ≤ w.heap.size) (hr : caR zs = true) (hk : 15 < k) :
    Calls Try.prog 11 #[.slice A l c, .int .i64 k] w fun e w' => ∃ tb g m base cnt blk D, e = .returned (.tuple #[.pointer (some ⟨tb, 0, none⟩), .int .i64 0]) ∧ LT w' tb g m 15 (qF 15 (allC zs)) blk D cnt base ∧ sumD D = totF 15 (allC zs) ∧ Below w.heap.size w w' ∧ w.heap.size ≤ base ∧ base ≤ tb := by
  have HV := Lib.hid (values_any A l c zs B w hl (by omega) hb hB hr)
  have HL := Lib.hid hl
  have HBZ := Lib.hid hb
  have HBB := Lib.hid hB
  have HR := Lib.hid hr
  have hmm := @run_makeMap Try.prog
  have HMK := Lib.hid (fun W' => make_rows 32768 (by omega) W')
  clear hb hl hB hr
  go_enter Try.func11, Try.ntmps11
  go_upto_region 4 with (first
    | (go_at_call 27; refine HV.out.mono ?_; rintro e w1 ⟨rfl, hi1, hb1⟩; have HI1 := Lib.hid hi1; have HB1 := Lib.hid hb1; clear hi1 hb1))
  have mk : (Instr.makeSlice 57 (.int .i64 32768) (.int .i64 32768)).run Try.prog w1 = .ok (.slice (some ⟨w1.heap.size, 0, none⟩) 32768 32768) (w1.alloc (.cells (madeCells #[.int .i64 0, .int .i64 0, .bool false] (98304)) 35)) := HMK.out w1
  obtain ⟨W2, hW2⟩ : ∃ W2, ((w1.alloc (.cells (madeCells #[.int .i64 0, .int .i64 0, .bool false] (98304)) 35)).alloc (.map #[] 0)).alloc (.cells #[.int .i64 15, .slice (some ⟨w1.heap.size, 0, none⟩) 32768 32768, .map (some (w1.heap.size + 1))] 60) = W2 := ⟨_, rfl⟩
  have HLT : Hid (LT W2 (w1.heap.size + 1 + 1) w1.heap.size (w1.heap.size + 1) 15 (qF 15 ((dnL zs 0).map (cd zs))) (fun _ => 0) (.map []) 0 w1.heap.size) := by
    have hmade : RB (w1.alloc (.cells (madeCells #[.int .i64 0, .int .i64 0, .bool false] (98304)) 35)) w1.heap.size (List.replicate 32768 r0) := made_rows w1 32768
    have hom := World.ownsMap_made (w1.alloc (.cells (madeCells #[.int .i64 0, .int .i64 0, .bool false] (98304)) 35)) Try.prog 3 slR
    have hz1 : (w1.alloc (.cells (madeCells #[.int .i64 0, .int .i64 0, .bool false] (98304)) 35)).heap.size = w1.heap.size + 1 := by simp
    rw [hz1] at hom
    show LT _ _ _ _ _ _ _ _ _ _
    rw [← hW2]
    refine ⟨?_, ?_, ?_, hom.alloc _, fun x _ => rfl, fun x L hx => (by cases hx), fun x y L L' hx _ _ => (by cases hx), ⟨by omega, by omega, by omega, Nat.le_refl _, by omega, by omega⟩⟩
    · have h := heap_alloc_new ((w1.alloc (.cells (madeCells #[.int .i64 0, .int .i64 0, .bool false] (98304)) 35)).alloc (.map #[] 0)) (.cells #[.int .i64 15, .slice (some ⟨w1.heap.size, 0, none⟩) 32768 32768, .map (some (w1.heap.size + 1))] 60)
      simp only [World.size_alloc] at h
      skip
      exact h
    · show (List.replicate (2 ^ 15) r0).length = 2 ^ 15
      simp
    · show RB _ _ (List.replicate (2 ^ 15) r0)
      rw [show 2 ^ 15 = 32768 by decide]
      exact (Below.heap_alloc _ _ _ (by simp; omega)).trans ((Below.heap_alloc _ _ _ (by simp)).trans hmade)
  have HM2 : Hid (Mod (tbS w1.heap.size) w1 W2) := by show Mod _ _ _; rw [← hW2]; exact (((Mod.refl _ w1).alloc _).alloc _).alloc _
  have HSZ : Hid (w.heap.size < w1.heap.size) := ib_lt HI1.out
  go_wp2
  clear mk hmm HMK hW2
  go_loopg [9] 15 (fun gk nv wr => ∃ (d cnt : Nat) (blk : Nat → Nat) (D : DataW Unit), d + gk = 15 ∧ nv = .int .i64 ((15 - d : Nat) : Int) ∧ LT wr (w1.heap.size + 1 + 1) w1.heap.size (w1.heap.size + 1) 15 (qF 15 ((dnL zs d).map (cd zs))) blk D cnt w1.heap.size ∧ sumD D = totF 15 ((dnL zs d).map (cd zs)) ∧ cnt ≤ d * 400 ∧ Mod (tbS w1.heap.size) w1 wr)
  case atStart => exact ⟨0, 0, _, _, by omega, rfl, HLT.out, rfl, by omega, HM2.out⟩
  case round =>
    obtain ⟨d, cnt, blk, D, hd, rfl, hlt, hsum, hcnt, hmo⟩ := hrel
    have HLT1 := Lib.hid hlt
    have HSUM := Lib.hid hsum
    have HMO := Lib.hid hmo
    have hd14 : gk ≠ 0 → d ≤ 14 := by omega
    have HCNT := Lib.hid hcnt
    obtain ⟨n, hn⟩ : ∃ n, 15 - d = n := ⟨_, rfl⟩
    rw [hn]
    clear hlt hsum hmo HLT HM2 hcnt
    by_cases h0 : n = 0
    · obtain rfl : d = 15 := by omega
      subst h0
      go_wp2
      go_ret2
      refine ⟨w1.heap.size + 1 + 1, rfl, w1.heap.size, w1.heap.size + 1, w1.heap.size, cnt, blk, D, HLT1.out, HSUM.out, HMO.out.below HB1.out HB1.out.size (fun j hj => Nat.le_trans HB1.out.size hj), HB1.out.size, by omega⟩
    · have hdd : d ≤ 14 := by omega
      obtain ⟨GK, hGK⟩ : ∃ GK, GK = gk := ⟨_, rfl⟩
      subst hGK
      have hG1 : 1 ≤ GK := by omega
      have hn15 : n ≤ 15 := by omega
      have HND : Hid (15 - d = n ∧ d + GK = 15) := ⟨hn, hd⟩
      have u0 : decide (0 < n) = true := decide_eq_true (by omega)
      clear hn hd hd14
      go_wp2
      go_loopg [36] l (fun gk iv wr => ∃ (j cnt : Nat) (blk : Nat → Nat) (D : DataW Unit), j + gk = l ∧ iv = .int .i64 (j : Int) ∧ LT wr (w1.heap.size + 1 + 1) w1.heap.size (w1.heap.size + 1) 15 (qF 15 ((dnK zs d j).map (cd zs))) blk D cnt w1.heap.size ∧ sumD D = totF 15 ((dnK zs d j).map (cd zs)) ∧ cnt ≤ d * 400 + j ∧ Mod (tbS w1.heap.size) w1 wr)
      case atStart => exact ⟨0, cnt, blk, D, by omega, rfl, by rw [dnK_zero]; exact HLT1.out, by rw [dnK_zero]; exact HSUM.out, by have := HCNT.out; omega, HMO.out⟩
      case round =>
        obtain ⟨j, cnt2, blk2, D2, hj, rfl, hlt, hsum, hcnt, hmo⟩ := hrel
        have HLT2 := Lib.hid hlt
        have HSUM2 := Lib.hid hsum
        have HMO2 := Lib.hid hmo
        have HCNT2 := Lib.hid hcnt
        clear hlt hsum hmo hcnt HLT1 HSUM HMO HCNT
        by_cases hjl : j < l
        · obtain ⟨z, hz⟩ : ∃ z, zs[j]? = some z := ⟨_, List.getElem?_eq_getElem (by rw [HL.out]; exact hjl)⟩
          have HBW := Lib.hid (HMO2.out.below HB1.out HB1.out.size (fun j hj => Nat.le_trans HB1.out.size hj))
          obtain ⟨b, o, rfl, hbB, hc⟩ := (HBZ.out.below HBW.out HBB.out) (by rw [List.length_map, HL.out]; omega)
          have c0 : wr.cell? ⟨b, o + j, none⟩ = some (.int .i64 z) := hc j _ (by rw [List.getElem?_map, hz]; rfl)
          have HIB : Hid (IntBlock wr w.heap.size (caV zs)) := HMO2.out.keep HI1.out (fun h => by have := HSZ.out; exact absurd h (by show ¬ w1.heap.size ≤ w.heap.size; omega))
          clear hc hbB
          by_cases hzn : z = (n : Int)
          · subst hzn
            obtain ⟨v, kk, hy⟩ := sym_of hz (by omega) hn15
            have hvl := hy.lt HR.out
            have hpn : (2 : Nat) ^ n ≤ 32768 := Nat.le_trans (Nat.pow_le_pow_right (by decide) hn15) (by decide)
            have hv15 : v < 32768 := by omega
            have c1 : wr.cell? ⟨w.heap.size, j, none⟩ = some (.int .i64 (v : Int)) := ib_cell HIB.out hy.val
            have HQT := Lib.hid (fun W' => qturn_any (v : Int) (n : Int) W' (by omega))
            have e1 : ((v : Int) % 65536).toNat = v := by omega
            have e2 : clampW (n : Int) = n := by unfold clampW; omega
            rw [e1, e2] at HQT
            have HCD := Lib.hid (cd_sym hy)
            have HDK : Hid (dnK zs d (j + 1) = dnK zs d j ++ [j]) := by
              show _ = _
              unfold dnK
              rw [HND.out.1, ixs_yes hz, List.append_assoc]
            have hok := okay_dnK (k := j + 1) HR.out hdd
            rw [HDK.out, List.map_append, List.map_singleton, HCD.out] at hok
            have HOK := Lib.hid hok
            have HSPEC := Lib.hid (spec_qF 15 _ hok.front.1)
            have HADD := Lib.hid (fun (m' : Nat) => add_any (w1.heap.size + 1 + 1) w1.heap.size (w1.heap.size + 1) 15 cnt2 w1.heap.size _ _ ⟨j, n, turnN v n⟩ blk2 D2 (wr.drewN m') (HLT2.out.drewN m') (by omega) HSPEC.out HOK.out HMO2.out.size (by have := HCNT2.out; have := hdd; omega))
            have HQF : Hid (qF 15 ((dnK zs d (j + 1)).map (cd zs)) = (qF 15 ((dnK zs d j).map (cd zs))).add 15 (turnN v n) j n ∧ totF 15 ((dnK zs d (j + 1)).map (cd zs)) = totF 15 ((dnK zs d j).map (cd zs)) + moreT 15 (qF 15 ((dnK zs d j).map (cd zs))) (turnN v n) n) := by
              constructor
              · rw [HDK.out, List.map_append, List.map_singleton, HCD.out, qF_snoc]
              · rw [HDK.out, List.map_append, List.map_singleton, HCD.out, totF_snoc]
            have htl := turnN_lt v n
            have hzz : ((n : Int) == (n : Int)) = true := by simp
            clear hz hy hok e1 e2
            go_wp2_with (first
              | (go_at_call 8; refine (HQT.out _).mono ?_; rintro e w3 ⟨rfl, mt, rfl⟩)
              | (go_at_call 28; refine (HADD.out mt).mono ?_; rintro e w4 ⟨rfl, blk4, D4, hlt4, hsum4, hmod4⟩; have HLT4 := Lib.hid hlt4; have HSUM4 := Lib.hid hsum4; have HMOD4 := Lib.hid hmod4; clear hlt4 hsum4 hmod4))
            go_roundg (gk - 1)
            case measure => omega
            case rel => exact ⟨j + 1, cnt2 + 1, blk4, D4, by omega, by go_num, by rw [HQF.out.1]; exact HLT4.out, by rw [HSUM4.out, HQF.out.2, HSUM2.out], by have := HCNT2.out; omega, (HMO2.out.drewN mt).then_ HMOD4.out⟩
          · have HDK : Hid (dnK zs d (j + 1) = dnK zs d j) := by
              show _ = _
              unfold dnK
              rw [HND.out.1, ixs_no (by rw [hz]; intro e; injection e with e; exact hzn e)]
            have hzz : (z == (n : Int)) = false := by simp [hzn]
            clear hz
            go_wp2
            go_roundg (gk - 1)
            case measure => omega
            case rel => exact ⟨j + 1, cnt2, blk2, D2, by omega, by go_num, by rw [HDK.out]; exact HLT2.out, by rw [HDK.out]; exact HSUM2.out, by have := HCNT2.out; omega, HMO2.out⟩
        · obtain rfl : j = l := by omega
          have HDF : Hid (dnK zs d j = dnL zs (d + 1)) := by show _ = _; rw [← HL.out]; exact dnK_full zs d
          rw [HDF.out] at HLT2 HSUM2
          go_wp2
          go_roundg (GK - 1)
          case measure => omega
          case rel => exact ⟨d + 1, cnt2, blk2, D2, by have := HND.out; omega, by have := HND.out; go_num, HLT2.out, HSUM2.out, by have := HCNT2.out; omega, HMO2.out⟩
theorem qnew_any (A : Option Addr) (l c : Nat) (zs : List Int) (k : Int) (B : Nat) (w : World) (hl : zs.length = l) (hm : l ≤ 320) (hb : Cells w B A (zs.map ic)) (hB : B ≤ w.heap.size) (hr : caR zs = true) :
    Calls Try.prog 11 #[.slice A l c, .int .i64 k] w fun e w' => ∃ tb g m base cnt blk D, e = .returned (.tuple #[.pointer (some ⟨tb, 0, none⟩), .int .i64 0]) ∧ LT w' tb g m (wid k) (qF (wid k) (allC zs)) blk D cnt base ∧ sumD D = totF (wid k) (allC zs) ∧ Below w.heap.size w w' ∧ w.heap.size ≤ base ∧ base ≤ tb := by
  rcases wid_ways k with ⟨h1, h2⟩ | ⟨h1, h2⟩ | ⟨h1, h2, h3⟩
  · rw [h2]; exact qnew_low A l c zs k B w hl hm hb hB hr h1
  · rw [h2]; exact qnew_high A l c zs k B w hl hm hb hB hr h1
  · exact qnew_mid A l c zs k (wid k) B w hl hm hb hB hr h1.symm h2 h3
end Go.Proofs.Ytnobeipabfdkjaa
