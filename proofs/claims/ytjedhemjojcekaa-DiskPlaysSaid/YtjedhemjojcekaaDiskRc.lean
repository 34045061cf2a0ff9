/- Layer 4, the document's answer: Crash, its first loop. -/
import Derived.Test.YtjedhemjojcekaaDiskRp
namespace Go.Proofs.Ytjedhemjojcekaa
open Go.RowKit
attribute [local go_sem ↓] Go.wp_at_zero Go.wp_at_succ

theorem wCells_get (L : List (Nat × List UInt8)) (i : Nat) (x : Nat × List UInt8) (h : L[i]? = some x) : (wCells L)[2 * i]? = some (.int .i64 (x.1 : Int)) ∧ (wCells L)[2 * i + 1]? = some (.string ⟨x.2.toArray⟩) := by
  induction L generalizing i with
  | nil => simp at h
  | cons y l ih =>
    cases i with
    | zero => simp at h; subst h; simp [wCells]
    | succ i =>
      obtain ⟨a, b⟩ := ih i (by simpa using h)
      have e : wCells (y :: l) = [.int .i64 (y.1 : Int), .string ⟨y.2.toArray⟩] ++ wCells l := by simp [wCells]
      rw [e]
      refine ⟨?_, ?_⟩
      · rw [List.getElem?_append_right (by simp; omega)]; simpa [show 2 * (i + 1) - 2 = 2 * i by omega] using a
      · rw [List.getElem?_append_right (by simp; omega)]; simpa [show 2 * (i + 1) + 1 - 2 = 2 * i + 1 by omega] using b
/-- A sector is set. -/
theorem sectors_splice (L bs : List UInt8) (p : Nat) (hp : 512 * p + 512 ≤ L.length) (hb : bs.length = 512) : sectors (splice L (512 * p) bs) = (sectors L).set p bs := by
  have hl : (splice L (512 * p) bs).length = L.length := length_splice _ _ _ (by omega)
  apply List.ext_getElem?
  intro i
  by_cases hi : i < L.length / 512
  · rw [sectors_get _ _ (by rw [hl]; exact hi), secAt_splice _ _ _ _ hb hp, List.getElem?_set]
    by_cases h : p = i
    · rw [if_pos h.symm, if_pos h, if_pos (by rw [sectors_length]; omega)]
    · rw [if_neg (fun h2 => h h2.symm), if_neg h, sectors_get _ _ hi]
  · rw [List.getElem?_eq_none (by rw [sectors_length, hl]; omega), List.getElem?_eq_none (by rw [List.length_set, sectors_length]; omega)]
theorem layN_end (X : List UInt8) (waits : List (Nat × List UInt8)) (keep : List Bool) (j : Nat) : ∀ n, j ≤ n → keep.length ≤ j → layN X waits keep n = layN X waits keep j
  | 0, h, _ => by rw [show j = 0 by omega]
  | n + 1, h, hk => by
    by_cases e : j = n + 1
    · rw [e]
    · rw [layN_no _ _ _ _ (by rw [List.getElem?_eq_none (by omega)]; simp)]
      exact layN_end X waits keep j n (by omega) hk
theorem RfS.ofL {w : World} {g base z : Nat} {S : Nat → Prop} {now safe : List UInt8} {waits : List (Nat × List UInt8)} {A1 A2 A3 A4 : Option Addr} {c1 c2 c3 c4 : Nat} (h : RfL w g base (sectors now) (safes z safe) (hass z safe) waits A1 c1 A2 c2 A3 c3 A4 c4) (hz : z = now.length / 512)
    (hS : S = rS g (.slice A1 (sectors now).length c1) (.slice A2 (safes z safe).length c2) (.slice A3 (hass z safe).length c3) (.slice A4 waits.length c4)) : RfS w g base S now safe waits := by
  subst hz
  exact ⟨A1, c1, A2, c2, A3, c3, A4, c4, h, hS⟩
theorem RfL.keep {w w' : World} {g base : Nat} {nw sf : List (List UInt8)} {hs : List Bool} {wt : List (Nat × List UInt8)} {A1 A2 A3 A4 : Option Addr} {c1 c2 c3 c4 : Nat} (h : RfL w g base nw sf hs wt A1 c1 A2 c2 A3 c3 A4 c4) (hm : Mod noB w w') : RfL w' g base nw sf hs wt A1 c1 A2 c2 A3 c3 A4 c4 :=
  ⟨hm.keep h.blk (fun h => h), own_keep h.o1 hm (fun _ _ h => h), own_keep h.o2 hm (fun _ _ h => h), own_keep h.o3 hm (fun _ _ h => h), own_keep h.o4 hm (fun _ _ h => h), h.apart⟩

set_option maxRecDepth 100000 in
set_option maxHeartbeats 1000000 in
theorem rcrash_any (g base : Nat) (S : Nat → Prop) (now safe : List UInt8) (waits : List (Nat × List UInt8)) (A : Option Addr) (c fill : Nat) (keep : List Bool) (w : World) (h : RfS w g base S now safe waits) (hg : Good now safe waits)
    (hw : waits.length ≤ 1099511627776) (hkl : keep.length ≤ 9223372036854775807) (hk : 0 < keep.length → Kept w S A (boolCells keep)) (hf : fill < 256) :
    Calls Try.prog 15 #[.pointer (some ⟨g, 0, none⟩), .slice A keep.length c, .int .u8 (fill : Int)] w fun e w' => e = .returned (.tuple #[]) ∧ ∃ S', RfS w' g base S' (crashNow now safe waits keep fill) (crashNow now safe waits keep fill) [] ∧ Mod S w w' ∧ ∀ k, S' k → S k ∨ w.heap.size ≤ k := by
  obtain ⟨A1, c1, A2, c2, A3, c3, A4, c4, h, rfl⟩ := h
  have htop := hg.top
  obtain ⟨z, hz⟩ : ∃ z, z = now.length / 512 := ⟨_, rfl⟩
  have hz6 : z ≤ 4096 := by omega
  obtain ⟨nw, hnw⟩ : ∃ nw, nw = sectors now := ⟨_, rfl⟩
  have HN1 : Hid (nw.length = z) := by show _ = _; rw [hnw, sectors_length, hz]
  obtain ⟨bn, hbn⟩ : ∃ bn, bn = sectors (baseNow now safe fill) := ⟨_, rfl⟩
  have HBN : Hid (bn.length = z) := by show _ = _; rw [hbn, sectors_length, baseNow_length hg, hz]
  have HBG : Hid (∀ i, i < z → bn[i]? = some (if i < safe.length / 512 then secAt i safe else spoilt 512 i fill)) := fun i hi => by
    rw [hbn, sectors_get _ _ (by rw [baseNow_length hg, ← hz]; exact hi), base_sec hg fill i (by rw [← hz]; exact hi)]
  rw [← hz, ← hnw] at h hk ⊢
  obtain ⟨S0, hS0⟩ : ∃ S0, S0 = rS g (.slice A1 nw.length c1) (.slice A2 (safes z safe).length c2) (.slice A3 (hass z safe).length c3) (.slice A4 waits.length c4) := ⟨_, rfl⟩
  rw [← hS0] at hk ⊢
  have HS0 := Lib.hid hS0
  have HKC : Hid (∀ W, Mod S0 w W → Cells W W.heap.size A (boolCells keep)) := fun W hm hp => ((hk (by simpa [boolCells] using hp)).step hm (fun _ hj => hj) (fun _ hj => .inl hj)).cells hp
  have HH := Lib.hid h
  have HG := Lib.hid hg
  have HZ := Lib.hid hz
  have HNW := Lib.hid hnw
  have HBN2 := Lib.hid hbn
  clear h hS0 hz hnw hbn hg hk
  obtain ⟨kl, hkl2⟩ : ∃ kl, kl = keep.length := ⟨_, rfl⟩
  rw [← hkl2] at hkl ⊢
  have HKL := Lib.hid hkl2
  clear hkl2
  have HSTR := Lib.hid (fun k W hk => strange_any k fill W hk hf)
  go_enter Try.func15, Try.ntmps15
  go_wp2
  go_loopg [6] z (fun gk v wr => ∃ i : Nat, i + gk = z ∧ v = .int .i64 (i : Int) ∧ RfL wr g base (mix bn nw i) (safes z safe) (hass z safe) waits A1 c1 A2 c2 A3 c3 A4 c4 ∧ Mod S0 w wr)
  case atStart => exact ⟨0, by omega, rfl, by rw [mix_zero]; exact HH.out, Mod.refl _ _⟩
  case round =>
    clear HH
    obtain ⟨i, hi, rfl, hr, hmod⟩ := hrel
    have HR := Lib.hid hr
    have HM := Lib.hid hmod
    have hb := hr.blk
    have e1 : (mix bn nw i).length = z := by rw [mix_length _ _ _ (by rw [HN1.out, HBN.out])]; exact HN1.out
    rw [e1, safes_length, hass_length] at hb
    obtain ⟨k0, k1, k2, k3, f0, f1, f2, f3⟩ := hb.cells
    have E1 := Lib.hid e1
    clear hb hr hmod e1
    by_cases hiz : i < z
    · have ho1 := HR.out.o1
      have ho2 := HR.out.o2
      have ho3 := HR.out.o3
      rw [E1.out] at ho1
      rw [safes_length] at ho2
      rw [hass_length] at ho3
      rcases own_A ho1 with ⟨_, h0, _⟩ | ⟨b1, rfl⟩
      · omega
      rcases own_A ho2 with ⟨_, h0, _⟩ | ⟨b2, rfl⟩
      · omega
      rcases own_A ho3 with ⟨_, h0, _⟩ | ⟨b3, rfl⟩
      · omega
      have hc1 : z ≤ c1 := own_cap4 ho1
      have hc2 : z ≤ c2 := own_cap4 ho2
      have hc3 : z ≤ c3 := own_cap4 ho3
      obtain ⟨y1, hy1⟩ := get_lt (bs := strCells (mix bn nw i)) (k := i) (by rw [strCells_length, E1.out]; exact hiz)
      obtain ⟨q1, r1⟩ := own_cell1 ho1 hy1
      obtain ⟨x, hx⟩ := get_lt (bs := safes z safe) (k := i) (by rw [safes_length]; exact hiz)
      obtain ⟨q2, _⟩ := own_cell1 (j := i) (u := .string ⟨x.toArray⟩) ho2 (by simp [strCells, hx])
      obtain ⟨q3, _⟩ := own_cell1 (j := i) (u := .bool (decide (i < safe.length / 512))) ho3 (by simp [boolCells, hass, hiz])
      have n1 := HR.out.ne1
      have m1 : ¬ (b1 = g) := fun h => n1 (by rw [← h]; rfl)
      have m1' : ¬ (g = b1) := fun h => m1 h.symm
      have m13 : ¬ (b1 = b3) := fun h => own_ne2 ho1 ho3 (by decide) b1 rfl (by rw [h]; rfl)
      have m13' : ¬ (b3 = b1) := fun h => m13 h.symm
      have HX := Lib.hid hx
      have HBI := Lib.hid (HBG.out i hiz)
      have HSX : Hid (i < safe.length / 512 → x = secAt i safe) := fun hs => by
        have := hx
        simp [safes, hiz, hs] at this
        exact this.symm
      have hS1 : ∀ k, oneB b1 k → S0 k := fun k hk => by rw [HS0.out, show k = b1 from hk]; exact rS_1 _ rfl
      have HS1 := Lib.hid hS1
      clear hx hy1 n1 ho1 ho2 ho3 hS1
      by_cases hsf : i < safe.length / 512
      · have hdc : decide (i < safe.length / 512) = true := by simpa using hsf
        rw [hdc] at q3
        go_wp2
        go_still_tail 13, (by kernel_rfl)
        repeat still_step
        change wpList _ _ _ _ _ wr.drew
        go_wp2
        go_roundg (gk - 1)
        case measure => omega
        case rel =>
          obtain ⟨s1, t1⟩ := HR.out.setNow (i := i) x (by rw [E1.out]; exact hiz)
          have hbi := HBI.out
          rw [if_pos hsf, ← HSX.out hsf] at hbi
          rw [mix_set _ _ _ _ (by rw [HN1.out, HBN.out]) hbi] at s1
          exact ⟨i + 1, by omega, rfl, s1.drew, (HM.out.then_ (t1.mono HS1.out)).drew⟩
      · have hdc : decide (i < safe.length / 512) = false := by simpa using hsf
        rw [hdc] at q3
        go_wp2
        go_still_tail 13, (by kernel_rfl)
        repeat still_step
        change wpList _ _ _ _ _ wr.drew
        go_wp2
        obtain ⟨s1, t1⟩ := HR.out.setNow (i := i) x (by rw [E1.out]; exact hiz)
        have HS2 := Lib.hid s1.drew
        have HT2 := Lib.hid ((HM.out.then_ (t1.mono HS1.out)).drew)
        clear k0 k1 k2 k3 f0 f1 f2 f3 q1 q2 q3 r1 s1 t1
        generalize (wr.setCell ⟨b1, i, none⟩ (.string ⟨x.toArray⟩)).drew = w5 at *
        have hl5 : ((mix bn nw i).set i x).length = z := by rw [List.length_set]; exact E1.out
        have hb5 := HS2.out.blk
        rw [hl5] at hb5
        obtain ⟨k0, _⟩ := hb5.cells
        have HL5 := Lib.hid hl5
        clear hb5 hl5
        go_region_law (go_simp; go_at_call 25; refine (HSTR.out i _ (by omega)).mono ?_; rintro e w9 ⟨rfl, hb9⟩; have HS9 := Lib.hid (HS2.out.drew.keep (Mod.of_below hb9)); have HT9 := Lib.hid (HT2.out.drew.trans (Mod.of_below hb9) (fun _ h => h.elim)); have hb5 := HS9.out.blk; rw [HL5.out] at hb5; obtain ⟨k9, _⟩ := hb5.cells; have ho9 := HS9.out.o1; rw [HL5.out] at ho9; obtain ⟨y9, hy9⟩ := get_lt (bs := strCells ((mix bn nw i).set i x)) (k := i) (by rw [strCells_length, HL5.out]; exact hiz); obtain ⟨q9, r9⟩ := own_cell1 ho9 hy9; clear hb9 hb5 ho9 hy9)
        all_goals
          go_wp2
          go_roundg (gk - 1)
          case measure => omega
          case rel =>
            obtain ⟨s3, t3⟩ := HS9.out.setNow (i := i) (spoilt 512 i fill) (by rw [HL5.out]; exact hiz)
            have hbi := HBI.out
            rw [if_neg hsf] at hbi
            rw [List.set_set, mix_set _ _ _ _ (by rw [HN1.out, HBN.out]) hbi] at s3
            first
            | exact ⟨i + 1, by omega, rfl, s3, HT9.out.then_ (t3.mono HS1.out)⟩
            | exact ⟨i + 1, by omega, rfl, s3.drew, (HT9.out.then_ (t3.mono HS1.out)).drew⟩
    · obtain rfl : i = z := by omega
      have e9 : mix bn nw i = bn := by have := mix_end bn nw (by rw [HN1.out, HBN.out]); rwa [HN1.out] at this
      have hr9 := HR.out
      rw [e9, HBN2.out] at hr9
      have HR9 := Lib.hid hr9
      have hbl : (baseNow now safe fill).length = now.length := baseNow_length HG.out fill
      have HBL := Lib.hid hbl
      clear hr9 e9 HR E1 hbl
      obtain ⟨X, hX⟩ : ∃ X, baseNow now safe fill = X := ⟨_, rfl⟩
      have HX := Lib.hid hX
      rw [hX] at HR9 HBL
      clear hX
      have HWL : Hid (∀ j, (layN X waits keep j).length = now.length) := fun j => (layN_length X waits keep (fun x hx => by rw [HBL.out]; exact HG.out.wt x hx) j).trans HBL.out
      obtain ⟨n, hn⟩ : ∃ n, n = waits.length := ⟨_, rfl⟩
      have HN := Lib.hid hn
      rw [← hn] at hw
      clear hn
      go_wp2
      go_loopg [7] n (fun gk v wr => ∃ j : Nat, j + gk = n ∧ v = .int .i64 (j : Int) ∧ RfL wr g base (sectors (layN X waits keep j)) (safes i safe) (hass i safe) waits A1 c1 A2 c2 A3 c3 A4 c4 ∧ Mod S0 w wr)
      case atStart => exact ⟨0, by omega, rfl, HR9.out, HM.out⟩
      case round =>
        clear HR9 HM k0 k1 k2 k3 f0 f1 f2 f3
        obtain ⟨j, hj, rfl, hr, hmod⟩ := hrel
        have HR := Lib.hid hr
        have HM := Lib.hid hmod
        have hb := hr.blk
        have e1 : (sectors (layN X waits keep j)).length = i := by rw [sectors_length, HWL.out j, HZ.out]
        rw [e1, safes_length, hass_length, ← HN.out] at hb
        obtain ⟨k0, k1, k2, k3, f0, f1, f2, f3⟩ := hb.cells
        have E1 := Lib.hid e1
        clear hb hr hmod e1
        by_cases hjn : j < n
        · by_cases hjk : j < kl
          · obtain ⟨kb, hkb⟩ := get_lt (bs := keep) (k := j) (by rw [← HKL.out]; exact hjk)
            obtain ⟨bk, ok, u, rfl, hbk, hu, hcell⟩ := (HKC.out _ HM.out).at_ (k := j) (by simp only [boolCells, List.length_map]; rw [← HKL.out]; exact hjk)
            have hub : u = .bool kb := by simp only [boolCells, List.getElem?_map, hkb] at hu; exact (Option.some.inj hu).symm
            subst hub
            have HKB := Lib.hid hkb
            clear hkb hu hbk
            cases kb
            · go_wp2
              go_roundg (gk - 1)
              case measure => omega
              case rel => exact ⟨j + 1, by omega, rfl, by rw [layN_no _ _ _ _ (by rw [HKB.out]; simp)]; exact HR.out, HM.out⟩
            · obtain ⟨x, hx⟩ := get_lt (bs := waits) (k := j) (by rw [← HN.out]; exact hjn)
              have hxg := HG.out.wt x (List.mem_of_getElem? hx)
              obtain ⟨xp, xb⟩ := x
              have hxp : xp < i := by have := HZ.out; simp only at hxg; omega
              have ho1 := HR.out.o1
              have ho4 := HR.out.o4
              rw [E1.out] at ho1
              rw [← HN.out] at ho4
              rcases own_A ho1 with ⟨_, h0, _⟩ | ⟨b1, rfl⟩
              · omega
              rcases own_A ho4 with ⟨_, h0, _⟩ | ⟨b4, rfl⟩
              · omega
              have hc1 : i ≤ c1 := own_cap4 ho1
              have hc4 : n ≤ c4 := own_cap4 ho4
              obtain ⟨y1, hy1⟩ := get_lt (bs := strCells (sectors (layN X waits keep j))) (k := xp) (by rw [strCells_length, E1.out]; exact hxp)
              obtain ⟨q1, r1⟩ := own_cell1 ho1 hy1
              obtain ⟨g0, g1⟩ := wCells_get waits j (xp, xb) hx
              have q4 := own2_cell ho4 g0
              have q5 := own2_cell ho4 g1
              rw [Nat.mul_comm 2 j] at q4 q5
              simp only at q4 q5
              have HXW := Lib.hid hx
              have HXG := Lib.hid hxg
              have hS1 : ∀ k, oneB b1 k → S0 k := fun k hk => by rw [HS0.out, show k = b1 from hk]; exact rS_1 _ rfl
              have HS1 := Lib.hid hS1
              have n1 := HR.out.ne1
              have m1 : ¬ (b1 = g) := fun h => n1 (by rw [← h]; rfl)
              have m1' : ¬ (g = b1) := fun h => m1 h.symm
              clear hx hy1 n1 ho1 ho4 hS1 g0 g1 hxg
              go_wp2
              go_still_tail 21, (by kernel_rfl)
              repeat still_step
              change wpList _ _ _ _ _ wr.drew
              go_wp2
              go_roundg (gk - 1)
              case measure => omega
              case rel =>
                obtain ⟨s1, t1⟩ := HR.out.setNow (i := xp) xb (by rw [E1.out]; exact hxp)
                rw [← sectors_splice _ _ _ (by rw [HWL.out]; exact HXG.out.1) HXG.out.2, ← layN_yes X waits keep j (xp, xb) HXW.out HKB.out] at s1
                exact ⟨j + 1, by omega, rfl, s1.drew, (HM.out.then_ (t1.mono HS1.out)).drew⟩
          · have hend : layN X waits keep j = crashNow now safe waits keep fill := by
              unfold crashNow
              rw [HX.out, ← HN.out]
              exact (layN_end X waits keep j n (by omega) (by rw [← HKL.out]; omega)).symm
            have hrr := HR.out
            rw [hend] at hrr
            have HSY := Lib.hid (rsync_any g base S0 (crashNow now safe waits keep fill) safe waits wr (RfS.ofL hrr (by rw [crashNow_length HG.out]; exact HZ.out) (by rw [HS0.out, HNW.out, sectors_length, HZ.out, sectors_length, crashNow_length HG.out])) (by rw [crashNow_length HG.out]; exact HG.out.top))
            have HSZ2 := HM.out.size
            clear hrr hend HR
            go_wp2_with (go_at_call 13; refine HSY.out.mono ?_; rintro e w9 ⟨rfl, S', hd, hm9, hp9⟩; have HD9 := Lib.hid hd; have HM9 := Lib.hid hm9; have HP9 := Lib.hid hp9; clear hd hm9 hp9)
            go_end0
            exact ⟨rfl, S', HD9.out, HM.out.then_ HM9.out, fun k hk => (HP9.out k hk).imp id (fun h => Nat.le_trans HSZ2 h)⟩
        · obtain rfl : j = n := by omega
          have hend : layN X waits keep j = crashNow now safe waits keep fill := by
            unfold crashNow
            rw [HX.out, ← HN.out]
          have hrr := HR.out
          rw [hend] at hrr
          have HSY := Lib.hid (rsync_any g base S0 (crashNow now safe waits keep fill) safe waits wr (RfS.ofL hrr (by rw [crashNow_length HG.out]; exact HZ.out) (by rw [HS0.out, HNW.out, sectors_length, HZ.out, sectors_length, crashNow_length HG.out])) (by rw [crashNow_length HG.out]; exact HG.out.top))
          have HSZ2 := HM.out.size
          clear hrr hend HR
          go_wp2_with (go_at_call 13; refine HSY.out.mono ?_; rintro e w9 ⟨rfl, S', hd, hm9, hp9⟩; have HD9 := Lib.hid hd; have HM9 := Lib.hid hm9; have HP9 := Lib.hid hp9; clear hd hm9 hp9)
          go_end0
          exact ⟨rfl, S', HD9.out, HM.out.then_ HM9.out, fun k hk => (HP9.out k hk).imp id (fun h => Nat.le_trans HSZ2 h)⟩
end Go.Proofs.Ytjedhemjojcekaa
