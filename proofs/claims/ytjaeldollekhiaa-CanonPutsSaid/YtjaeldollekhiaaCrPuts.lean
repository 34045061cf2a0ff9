/- Layer 8: the bits of symbols: the law. -/
import Derived.Test.YtjaeldollekhiaaCrPut
import Derived.Test.YtjaeldollekhiaaCrRef
import Derived.Test.YtjaeldollekhiaaBitsCut
import Derived.Test.YtjaeldollekhiaaCrBack
import Derived.Deep.RegionLaw
namespace Go.Proofs.Ytjaeldollekhiaa
open Go.RowKit BitsP
attribute [local go_sem ↓] Go.wp_at_zero Go.wp_at_succ

/-- A writer holds bits, a row bits as bytes, in blocks of their own. -/
structure BothB (w : World) (q : Nat) (S : Nat → Prop) (v : Value) (L M : List Bool) : Prop where
  wr : WrS w q q S L
  row : OwnB w q 5 v M.length (bitBytes M)
  apart : ∀ k, S k → ¬ ownS v k
  from_ : ∀ k, S k → q ≤ k
section
variable {w w1 : World} {q : Nat} {S S1 : Nat → Prop} {v v1 : Value} {L L1 M M1 : List Bool}
theorem BothB.put (h : BothB w q S v L M) (hq : q ≤ w.heap.size) (hw : WrS w1 q q S1 L1) (hm : Mod S w w1) (hs : ∀ k, S1 k → S k ∨ w.heap.size ≤ k) : BothB w1 q S1 v L1 M :=
  ⟨hw, own_keep h.row hm (fun k hk hS => h.apart k hS hk), fun k hk hv => by
    rcases hs k hk with h1 | h1
    · exact h.apart k h1 hv
    · have := own_lt h.row k hv
      omega, fun k hk => by
    rcases hs k hk with h1 | h1
    · exact h.from_ k h1
    · omega⟩
theorem BothB.below_ (h : BothB w q S v L M) (hb : Below w.heap.size w w1) : BothB w1 q S v L M :=
  ⟨h.wr.keep (Mod.of_below hb) (fun _ _ h => h), own_keep h.row (Mod.of_below hb) (fun _ _ h => h), h.apart, h.from_⟩
theorem BothB.grow (h : BothB w q S v L M) (ha : App w q 5 1 v M1.length (byteCells (bitBytes M1)) w1 v1) : BothB w1 q S v1 L M1 :=
  ⟨h.wr.keep (Mod.of_app ha) (fun k hk hv => h.apart k hk hv), ha.own, fun k hk hv => by
    rcases ha.place k hv with h1 | h1
    · exact h.apart k hk h1
    · have := h.wr.lt k hk
      omega, h.from_⟩
theorem BothB.drewN (h : BothB w q S v L M) (n : Nat) : BothB (w.drewN n) q S v L M := ⟨h.wr, h.row, h.apart, h.from_⟩
theorem BothB.drew (h : BothB w q S v L M) : BothB w.drew q S v L M := ⟨h.wr, h.row, h.apart, h.from_⟩
end
theorem below_drewK {B : Nat} {a w : World} (h : Below B a w) (n : Nat) : Below B a (w.drewN n) := ⟨h.os, h.tape, h.output, h.size, h.block⟩
/-- What the loop keeps: the code, and the codes. -/
structure Kept (w w1 w2 W : World) (g : Nat) (zs : List Int) : Prop where
  bel : Below w.heap.size w W
  code : LC W g zs
  vals : IntBlock W w1.heap.size (caV zs)
  big : w2.heap.size ≤ W.heap.size
theorem Kept.mod {w w1 w2 W W' : World} {g : Nat} {zs : List Int} {S : Nat → Prop} (h : Kept w w1 w2 W g zs) (hm : Mod S W W') (hS : ∀ k, S k → w2.heap.size ≤ k) (hg : g < w2.heap.size) (h1 : w1.heap.size < w2.heap.size) (h0 : w.heap.size ≤ w2.heap.size) : Kept w w1 w2 W' g zs :=
  ⟨hm.below h.bel h.bel.size (fun k hk => Nat.le_trans h0 (hS k hk)), h.code.mod hm (fun k hk => Nat.lt_of_lt_of_le hg (hS k hk)), hm.keep h.vals (fun hk => by have := hS _ hk; omega), Nat.le_trans h.big hm.size⟩
theorem Kept.below {w w1 w2 W W' : World} {g : Nat} {zs : List Int} (h : Kept w w1 w2 W g zs) (hb : Below W.heap.size W W') : Kept w w1 w2 W' g zs :=
  ⟨h.bel.trans (hb.mono h.bel.size), h.code.below hb, (by unfold IntBlock; rw [hb.block _ (ib_lt h.vals)]; exact h.vals), Nat.le_trans h.big hb.size⟩
theorem Kept.drew {w w1 w2 W : World} {g : Nat} {zs : List Int} (h : Kept w w1 w2 W g zs) : Kept w w1 w2 W.drew g zs := ⟨h.bel.drew, h.code, h.vals, h.big⟩
set_option maxRecDepth 100000 in
set_option maxHeartbeats 1000000 in
theorem canputs_any (A A2 : Option Addr) (l c l2 c2 : Nat) (zs ss : List Int) (w : World) (hl : zs.length = l) (hm : l ≤ 9223372036854775807) (hl2 : ss.length = l2) (hm2 : l2 ≤ 9223372036854775807) (hb : Cells w w.heap.size A (zs.map ic)) (hb2 : Cells w w.heap.size A2 (ss.map ic)) :
    Calls Try.prog 4 #[.slice A l c, .slice A2 l2 c2] w fun e w' => e = .returned (.bool true) ∧ Below w.heap.size w w' := by
  have HLV := Lib.hid lives8_any
  by_cases h400 : 400 < l
  · clear hb hb2 hl hl2
    go_enter Try.func4, Try.ntmps4
    go_wp2_with (go_at_call 7; refine (HLV.out _).mono ?_; rintro e w4 ⟨rfl, hb4⟩; have HB4 := Lib.hid hb4; clear hb4)
    go_ret
    exact ⟨rfl, HB4.out⟩
  by_cases h60 : 60 < l2
  · clear hb hb2 hl hl2
    go_enter Try.func4, Try.ntmps4
    go_wp2_with (go_at_call 7; refine (HLV.out _).mono ?_; rintro e w4 ⟨rfl, hb4⟩; have HB4 := Lib.hid hb4; clear hb4)
    go_ret
    exact ⟨rfl, HB4.out⟩
  have HR8 := Lib.hid (ref8Right_any A l c zs _ w hl (by omega) hb)
  cases hr : caR zs with
  | false =>
    rw [hr] at HR8
    clear hr hb hb2 hl hl2
    go_enter Try.func4, Try.ntmps4
    go_wp2_with (first | (go_at_call 8; refine HR8.out.mono ?_; rintro e w' ⟨rfl, rfl⟩) | (go_at_call 7; refine (HLV.out _).mono ?_; rintro e w4 ⟨rfl, hb4⟩; have HB4 := Lib.hid hb4; clear hb4))
    go_ret
    exact ⟨rfl, HB4.out⟩
  | true =>
    rw [hr] at HR8
    have HN := Lib.hid (new_any A l c zs _ w hl (by omega) hb (Nat.le_refl _) hr)
    have HVR : Hid (∀ W : World, Below w.heap.size w W → _) := fun W hW => ref8Values_any A l c zs w.heap.size W hl (by omega) (hb.below hW (Nat.le_refl _)) hW.size
    have HR := Lib.hid hr
    have HL2 := Lib.hid hl2
    have HL := Lib.hid hl
    have HSS : Hid (Cells w w.heap.size A2 (ss.map ic)) := hb2
    have HZZ : Hid (Cells w w.heap.size A (zs.map ic)) := hb
    have HFL : Hid (∀ k, (flatS zs (ss.take k)).length ≤ 900) := fun k => by
      have := flatS_len hr (ss.take k)
      rw [List.length_take] at this
      show _ ≤ _
      omega
    have hl400 : l ≤ 400 := by omega
    have hl60 : l2 ≤ 60 := by omega
    clear hr hb hb2 hl hl2 h400 h60
    go_enter Try.func4, Try.ntmps4
    go_wp2_with (first
      | (go_at_call 8; refine HR8.out.mono ?_; rintro e w' ⟨rfl, rfl⟩)
      | (go_at_call 10; refine HN.out.mono ?_; rintro e w1 ⟨g, rfl, hlc, hg, hb1⟩; have HB1 := Lib.hid hb1; have HLC := Lib.hid hlc; clear hb1 hlc hg)
      | (go_at_call 13; refine (HVR.out _ HB1.out).mono ?_; rintro e w2 ⟨rfl, hi2, hb2⟩; have HI2 := Lib.hid hi2; have HB2 := Lib.hid hb2; clear hi2 hb2))
    have HGL : Hid (g < w2.heap.size) := by
      obtain ⟨_, _, _, _, _, _, _, h, _⟩ := HLC.out
      exact Nat.lt_of_lt_of_le (cb_lt h) HB2.out.size
    have HG1 : Hid (w1.heap.size < w2.heap.size) := ib_lt HI2.out
    have HG0 : Hid (w.heap.size ≤ w2.heap.size) := Nat.le_trans HB1.out.size HB2.out.size
    have HW0 := Lib.hid (WrS.zero (w := w2.alloc (.cells zeroWr 39)) w2.heap.size (heap_alloc_new w2 _))
    have HK0 : Hid (Kept w w1 w2 (w2.alloc (.cells zeroWr 39)) g zs) :=
      (⟨HB1.out.trans (HB2.out.mono HB1.out.size), HLC.out.below HB2.out, HI2.out, Nat.le_refl _⟩ : Kept w w1 w2 w2 g zs).below ((Below.refl w2.heap.size w2).alloc (Nat.le_refl _) (.cells zeroWr 39))
    clear HB1 HB2 HI2 HLC
    go_loopg [9, 10] l2 (fun gk v i wr => ∃ (k : Nat) (S : Nat → Prop), k + gk = l2 ∧ i = .int .i64 k ∧ BothB wr w2.heap.size S v (flatS zs (ss.take k)) (flatS zs (ss.take k)) ∧ Kept w w1 w2 wr g zs)
    case atStart => exact ⟨0, oneB w2.heap.size, by omega, rfl, ⟨HW0.out, World.ownsRow_nil _ _ _ _, fun k _ => ownS_nil k, fun k hk => by cases hk; exact Nat.le_refl _⟩, HK0.out⟩
    case round =>
      obtain ⟨k, S, hk, rfl, hbo, hkp⟩ := hrel
      have HBO := Lib.hid hbo
      have HKP := Lib.hid hkp
      have hsz := hkp.big
      clear hbo hkp HW0 HK0
      obtain ⟨Ap, cp, rfl⟩ := own_form HBO.out.row
      have hfl := HFL.out k
      by_cases hkl : k < l2
      · obtain ⟨s, hs⟩ : ∃ s, ss[k]? = some s := ⟨_, List.getElem?_eq_getElem (by rw [HL2.out]; exact hkl)⟩
        obtain ⟨b, o, rfl, hbB, hc⟩ := HSS.out (by rw [List.length_map, HL2.out]; omega)
        have HCEL : Hid (∀ W, Below w.heap.size w W → W.cell? ⟨b, o + k, none⟩ = some (.int .i64 s)) := fun W hW => (hW.cell (p := ⟨b, o + k, none⟩) hbB).trans (hc k _ (by rw [List.getElem?_map, hs]; rfl))
        have HFU := Lib.hid (flatS_up (zs := zs) hs)
        have HP := Lib.hid (put8_any g w2.heap.size w2.heap.size zs S (flatS zs (ss.take k)) s wr HR.out HKP.out.code HBO.out.wr (by omega) hsz)
        have c0 := HCEL.out wr HKP.out.bel
        clear hs hc hbB
        have hgl5 : True := trivial
        rcases lenAt_cases HR.out s with ⟨e1, e2, e3⟩ | ⟨t, n, v, kk, rfl, hy, e1, e2, e3, hv⟩
        · rw [e2] at HP
          have HE1 : Hid (flatS zs (ss.take (k + 1)) = flatS zs (ss.take k)) := by show _ = _; rw [HFU.out, e3, List.append_nil]
          clear e2 e3
          by_cases hs0 : 0 ≤ s
          · obtain ⟨t, rfl⟩ := Int.eq_ofNat_of_zero_le hs0
            by_cases htl : t < l
            · obtain ⟨x, hx⟩ : ∃ x, zs[t]? = some x := ⟨_, List.getElem?_eq_getElem (by rw [HL.out]; exact htl)⟩
              rw [lenAt, if_pos hs0, Int.toNat_natCast, getD_of hx] at e1
              subst e1
              obtain ⟨bz, oz, rfl, hbz, hcz⟩ := HZZ.out (by rw [List.length_map, HL.out]; omega)
              have c9 : wr.cell? ⟨bz, oz + t, none⟩ = some (.int .i64 0) := (HKP.out.bel.cell (p := ⟨bz, oz + t, none⟩) hbz).trans (hcz t _ (by rw [List.getElem?_map, hx]; rfl))
              clear hx hcz hbz
              clear hgl5
              go_wp2_with (go_at_call 16; refine HP.out.mono ?_; rintro e w3 ⟨rfl, S3, hw3, hm3, hs3⟩; rw [← HFU.out] at hw3; have HBO3 := Lib.hid (HBO.out.put hsz hw3 hm3 hs3); have HK3 := Lib.hid (HKP.out.mod hm3 HBO.out.from_ HGL.out HG1.out HG0.out); clear hw3 hm3 hs3)
              go_roundg (gk - 1)
              case measure => omega
              case rel => exact ⟨k + 1, S3, by omega, by go_num, by have h := HBO3.out; rw [HE1.out] at h ⊢; exact h, HK3.out⟩
            · clear e1
              clear hgl5
              go_wp2_with (go_at_call 16; refine HP.out.mono ?_; rintro e w3 ⟨rfl, S3, hw3, hm3, hs3⟩; rw [← HFU.out] at hw3; have HBO3 := Lib.hid (HBO.out.put hsz hw3 hm3 hs3); have HK3 := Lib.hid (HKP.out.mod hm3 HBO.out.from_ HGL.out HG1.out HG0.out); clear hw3 hm3 hs3)
              go_roundg (gk - 1)
              case measure => omega
              case rel => exact ⟨k + 1, S3, by omega, by go_num, by have h := HBO3.out; rw [HE1.out] at h ⊢; exact h, HK3.out⟩
          · clear e1
            clear hgl5
            go_wp2_with (go_at_call 16; refine HP.out.mono ?_; rintro e w3 ⟨rfl, S3, hw3, hm3, hs3⟩; rw [← HFU.out] at hw3; have HBO3 := Lib.hid (HBO.out.put hsz hw3 hm3 hs3); have HK3 := Lib.hid (HKP.out.mod hm3 HBO.out.from_ HGL.out HG1.out HG0.out); clear hw3 hm3 hs3)
            go_roundg (gk - 1)
            case measure => omega
            case rel => exact ⟨k + 1, S3, by omega, by go_num, by have h := HBO3.out; rw [HE1.out] at h ⊢; exact h, HK3.out⟩
        · rw [e2] at HP
          have HE1 : Hid (flatS zs (ss.take (k + 1)) = flatS zs (ss.take k) ++ codeB v n) := by show _ = _; rw [HFU.out, e3]
          have HCL : Hid ((codeB v n).length = n) := codeB_len v n
          have hn1 := hy.one
          have hn15 := hy.few
          have hvv : v < 32768 := Nat.lt_of_lt_of_le hv (Nat.le_trans (Nat.pow_le_pow_right (by decide) hn15) (by decide))
          have htl : t < l := by have := (List.getElem?_eq_some_iff.1 hy.len).1; have := HL.out; omega
          obtain ⟨bz, oz, rfl, hbz, hcz⟩ := HZZ.out (by rw [List.length_map, HL.out]; omega)
          have HCZ : Hid (∀ W, Below w.heap.size w W → W.cell? ⟨bz, oz + t, none⟩ = some (.int .i64 (n : Int))) := fun W hW => (hW.cell (p := ⟨bz, oz + t, none⟩) hbz).trans (hcz t _ (by rw [List.getElem?_map, hy.len]; rfl))
          have c9 := HCZ.out wr HKP.out.bel
          have HCV : Hid (∀ W, IntBlock W w1.heap.size (caV zs) → W.cell? ⟨w1.heap.size, t, none⟩ = some (.int .i64 (v : Int))) := fun W hW => ib_cell hW hy.val
          have hpos : decide (0 < n) = true := decide_eq_true (by omega)
          have HREF := Lib.hid (fun W => refBits_any v n W hvv hn15)
          clear e1 e2 e3 hcz hbz hy hv
          go_wp2_with (go_at_call 16; refine HP.out.mono ?_; rintro e w3 ⟨rfl, S3, hw3, hm3, hs3⟩; rw [← HFU.out] at hw3; have HBO3 := Lib.hid (HBO.out.put hsz hw3 hm3 hs3); have HK3 := Lib.hid (HKP.out.mod hm3 HBO.out.from_ HGL.out HG1.out HG0.out); clear hw3 hm3 hs3)
          have HP3 : Hid (∀ W, Kept w w1 w2 W g zs → W.cell? ⟨b, o + k, none⟩ = some (.int .i64 (t : Int)) ∧ W.cell? ⟨bz, oz + t, none⟩ = some (.int .i64 (n : Int)) ∧ W.cell? ⟨w1.heap.size, t, none⟩ = some (.int .i64 (v : Int))) := fun W hW => ⟨HCEL.out W hW.bel, HCZ.out W hW.bel, HCV.out W hW.vals⟩
          have S5 := HP3.out w3 HK3.out
          have hs3 := HK3.out.big
          go_region_held3 (fun W => W.cell? ⟨b, o + k, none⟩ = some (.int .i64 (t : Int)) ∧ W.cell? ⟨bz, oz + t, none⟩ = some (.int .i64 (n : Int)) ∧ W.cell? ⟨w1.heap.size, t, none⟩ = some (.int .i64 (v : Int))) (first | exact S5 | exact S6 | exact S7)
            ((first
            | (go_at_call 17; refine (HREF.out _).mono ?_; rintro e w6 ⟨A6, c6, rfl, hown, hbel⟩; have HO6 := Lib.hid (Cells.of_own hown); have HBO6 := Lib.hid (HBO3.out.drew.below_ hbel); have HK6 := Lib.hid (HK3.out.drew.below hbel); clear hown hbel; have S6 := HP3.out _ HK6.out)
            | (refine step_app _ byteElem3 (by rfl) (.tmp 72) (.tmp 87) (by rfl) w2.heap.size (.slice Ap (flatS zs (ss.take k)).length cp) (flatS zs (ss.take k)).length (byteCells (bitBytes (flatS zs (ss.take k)))) (by rfl) HBO6.out.row w6.heap.size A6 n c6 (byteCells (bitBytes (codeB v n))) (by rfl) (by rw [byteCells_length, bitBytes_length, HCL.out, Nat.mul_one]) HO6.out (byteCells_one _) (by unfold maxLen; omega) (by omega) HK6.out.big ?_; intro A7 c7 w7 hA; have HA := Lib.hid hA; clear hA; have happ : App w6 w2.heap.size 5 1 (.slice Ap (flatS zs (ss.take k)).length cp) (flatS zs (ss.take (k + 1))).length (byteCells (bitBytes (flatS zs (ss.take (k + 1))))) w7 (.slice A7 ((flatS zs (ss.take k)).length + n) c7) := (by rw [HE1.out, List.length_append, bitBytes_append, byteCells_append, HCL.out]; exact HA.out); have HBO7 := Lib.hid (HBO6.out.grow happ); have HK7 := Lib.hid (HK6.out.mod (Mod.of_app happ) (own_base HBO6.out.row) HGL.out HG1.out HG0.out); clear happ HA; have S7 := HP3.out _ HK7.out)))
          go_wp2
          go_roundg (gk - 1)
          case measure => omega
          case rel => exact ⟨k + 1, S3, by omega, by go_num, HBO7.out, HK7.out⟩
      · obtain rfl : k = l2 := by omega
        have htk : ss.take k = ss := List.take_of_length_le (by rw [HL2.out]; omega)
        rw [htk] at HBO hfl ⊢
        clear HFL htk
        obtain ⟨L, hL⟩ : ∃ L, flatS zs ss = L := ⟨_, rfl⟩
        rw [hL] at HBO hfl ⊢
        have HPL : Hid ((pack L).length ≤ L.length) := pack_length L
        obtain ⟨P, hP⟩ : ∃ P, pack L = P := ⟨_, rfl⟩
        obtain ⟨str, hS⟩ : ∃ str : ByteArray, (⟨P.toArray⟩ : ByteArray) = str := ⟨_, rfl⟩
        have HP := Lib.hid hP
        have HSTR := Lib.hid hS
        clear hP hS hL
        go_upto_region 15 with (fail)
        go_region_with (first
          | (go_at_call 18; refine (wlen_any w2.heap.size w2.heap.size S L _ HBO.out.drew.wr (by omega)).mono ?_; rintro e w' ⟨rfl, nd, rfl⟩)
          | (go_at_call 19; refine (wbytes_any w2.heap.size w2.heap.size S L _ (HBO.out.drewN (1 + nd)).wr (by omega)).mono ?_; rintro e w8 ⟨A8, c8, rfl, hown, hbel⟩; rw [HP.out] at hown; rw [HP.out]; have HO8 := Lib.hid (Cells.of_own hown); have HBO8 := Lib.hid ((HBO.out.drewN (1 + nd)).below_ hbel); have HBEL8 := Lib.hid ((below_drewK HKP.out.bel (1 + nd)).trans (hbel.mono HKP.out.bel.size)); have k8 := str_any w8 A8 P.length c8 _ P HO8.out rfl; rw [HSTR.out] at k8; clear hown hbel)
          | (go_at_call 20; refine (refPack_any Ap L.length cp w8.heap.size L w8 rfl (by omega) (Nat.le_refl _) (Cells.of_own HBO8.out.row)).mono ?_; rintro e w9 ⟨A9, c9, rfl, hown, hbel⟩; rw [HP.out] at hown; rw [HP.out]; have HO9 := Lib.hid (Cells.of_own hown); have HBEL9 := Lib.hid (HBEL8.out.trans (hbel.mono HBEL8.out.size)); have k9 := str_any w9 A9 P.length c9 _ P HO9.out rfl; rw [HSTR.out] at k9; have k10 := str_any w9 A8 P.length c8 _ P (HO8.out.below hbel (Nat.le_refl _)) rfl; rw [HSTR.out] at k10; clear hown hbel)
          | (go_at_call 7; refine (HLV.out _).mono ?_; rintro e w10 ⟨rfl, hb10⟩; have HB10 := Lib.hid hb10; clear hb10))
        all_goals
          go_wp2
          go_ret
          exact ⟨rfl, HBEL9.out.trans (HB10.out.mono HBEL9.out.size)⟩
end Go.Proofs.Ytjaeldollekhiaa
