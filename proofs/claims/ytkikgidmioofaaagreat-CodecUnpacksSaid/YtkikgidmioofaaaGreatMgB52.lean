/- Layer 13: a class is taken. -/
import Derived.Test.YtkikgidmioofaaaGreatMgBSBkTkP
import Derived.Test.YtkikgidmioofaaaGreatMgB51
import Derived.Test.YtkikgidmioofaaaGreatMgBSSymLeaf
import Derived.Test.YtkikgidmioofaaaGreatMgB28
import Derived.Test.YtkikgidmioofaaaGreatMgB47
import Derived.Test.YtkikgidmioofaaaGreatMgB30
import Derived.WalkMore
import Derived.Test.YtkikgidmioofaaaGreatMgB49
import Derived.Test.YtkikgidmioofaaaGreatMgB06
import Derived.Deep.RegionWith
import Derived.Test.YtkikgidmioofaaaGreatMgB10
import Derived.Test.YtkikgidmioofaaaGreatMgBSBkBkP
import Derived.Test.YtkikgidmioofaaaGreatMgB25
import Derived.Deep.RegionHeld3
namespace Go.Proofs.YtkikgidmioofaaaGreat
open Go.RowKit BitsP SymP

theorem takeR_one {zs : List Int} {m : Nat} {U : List Bool} {s e : Int} {on : Nat} (h : TakeR zs m U s e on) (he : e = 0) : 1 ≤ on := by
  rcases h with ⟨t, v, k, hy, _, _, _, _⟩ | ⟨_, _, _, he2⟩
  · exact hy.one
  · rw [he2] at he
    split at he <;> cases he
set_option maxRecDepth 100000 in
set_option maxHeartbeats 1000000 in
theorem tkclass_any (F : List Int → List Bool → Int × Int × Nat) (hF : FunT F) (g r base zr : Nat) (zs : List Int) (S : Nat → Prop) (bs : List UInt8) (p : Nat) (w : World) (hr : caR zs = true) (hz0 : zr ≤ 1000) (h : LC w g zs) (hrd : RdS w r base S bs p) (hbl : bs.length ≤ 1000000) :
    Calls Tryz.prog 122 #[.pointer (some ⟨r, 0, none⟩), .agg #[.pointer (some ⟨g, 0, none⟩), .int .i64 (zr : Int)]] w
      fun e w' => ∃ p', e = .returned (.tuple #[.agg #[.int .i64 ((clsF F zs zr (unpack bs) p).2.1.1 : Nat), .int .i64 ((clsF F zs zr (unpack bs) p).2.1.2.1 : Nat), .int .u32 ((clsF F zs zr (unpack bs) p).2.1.2.2 : Nat)], .int .i64 (clsF F zs zr (unpack bs) p).1]) ∧ RdS w' r base S bs p' ∧ ((clsF F zs zr (unpack bs) p).1 = 0 → p' = p + (clsF F zs zr (unpack bs) p).2.2 ∧ 1 ≤ (clsF F zs zr (unpack bs) p).2.2 ∧ (clsF F zs zr (unpack bs) p).2.1.1 < zs.length ∧ (clsF F zs zr (unpack bs) p).2.1.2.1 ≤ 13 ∧ (clsF F zs zr (unpack bs) p).2.1.2.2 < 8192) ∧ Mod (oneB r) w w' := by
  obtain ⟨hrl0, hp8, _⟩ := rd_low hrd
  have hb0 : Below w.heap.size w (w.alloc (.cells #[.pointer (some ⟨g, 0, none⟩), .int .i64 (zr : Int)] 149)) := (Below.refl w.heap.size w).alloc (Nat.le_refl _) _
  have hb1 := hb0.alloc (o := .cells #[.int .i64 0, .int .i64 0, .int .u32 0] 73) (by simp)
  obtain ⟨W1, hW1⟩ : ∃ W1, (w.alloc (.cells #[.pointer (some ⟨g, 0, none⟩), .int .i64 (zr : Int)] 149)).alloc (.cells #[.int .i64 0, .int .i64 0, .int .u32 0] 73) = W1 := ⟨_, rfl⟩
  rw [hW1] at hb1
  have HX1 : Hid (W1.heap[w.heap.size]? = some (.cells #[.pointer (some ⟨g, 0, none⟩), .int .i64 (zr : Int)] 149 (0, 0))) := by show _ = _; rw [← hW1]; exact row3_alloc (heap_alloc_new w _) _
  have HY1 : Hid (W1.heap[w.heap.size + 1]? = some (.cells #[.int .i64 0, .int .i64 0, .int .u32 0] 73 (0, 0))) := by show _ = _; rw [← hW1]; have h := heap_alloc_new (w.alloc (.cells #[.pointer (some ⟨g, 0, none⟩), .int .i64 (zr : Int)] 149)) (.cells #[.int .i64 0, .int .i64 0, .int .u32 0] 73); rw [World.size_alloc] at h; exact h
  have c0 : W1.cell? ⟨w.heap.size, 0, none⟩ = some (.pointer (some ⟨g, 0, none⟩)) := cell_of_row _ _ 0 _ _ _ HX1.out
  have HT := Lib.hid (take8_any g r base zs S bs p W1 hr (h.below hb1) (hrd.keep (Mod.of_below hb1) (fun _ _ h => h)) hbl)
  have HM : Hid (Mod (oneB r) w W1) := (Mod.of_below hb1).mono (fun _ h => h.elim)
  have HRL : Hid (r < w.heap.size) := hrl0
  have HTK : Hid (∀ (W : World) (p b : Nat), RdS W r base S bs p → b ≤ 100 → _) := fun W p b hW h1 => rtake_any r base S bs p (b : Int) W hW (by omega) (by omega) (by omega)
  have HSL : Hid (∀ k, S k → k < w.heap.size) := hrd.lt
  clear h hrd hb0 hb1 hrl0
  obtain ⟨L, hL⟩ : ∃ L, unpack bs = L := ⟨_, rfl⟩
  have hLl : L.length = 8 * bs.length := by rw [← hL, unpack_length]
  have HLL := Lib.hid hLl
  have HLE := Lib.hid hL
  rw [hL] at HT ⊢
  clear hL hLl
  have HST : Hid (∀ W : World, Mod (oneB r) w W → ∀ v u x, Mod (oneB r) w (((W.setCell ⟨w.heap.size + 1, 0, none⟩ v).setCell ⟨w.heap.size + 1, 1, none⟩ u).setCell ⟨w.heap.size + 1, 2, none⟩ x)) := fun W hW v u x => ((hW.set _ _ (.inr (Nat.le_succ _))).set _ _ (.inr (Nat.le_succ _))).set _ _ (.inr (Nat.le_succ _))
  have HSR : Hid (∀ (W : World) (q : Nat), RdS W r base S bs q → ∀ v u x, RdS (((W.setCell ⟨w.heap.size + 1, 0, none⟩ v).setCell ⟨w.heap.size + 1, 1, none⟩ u).setCell ⟨w.heap.size + 1, 2, none⟩ x) r base S bs q) := fun W q hW v u x => hW.keep (T := oneB (w.heap.size + 1)) ((((Mod.refl (oneB (w.heap.size + 1)) W).set ⟨w.heap.size + 1, 0, none⟩ v (.inl rfl)).set ⟨w.heap.size + 1, 1, none⟩ u (.inl rfl)).set ⟨w.heap.size + 1, 2, none⟩ x (.inl rfl)) (fun k hk h => by have h2 : k = w.heap.size + 1 := h; have := HSL.out k hk; omega)
  go_enter Tryz.func122, Tryz.ntmps122
  go_wp2_with fail
  refine HT.out.mono ?_
  rintro e w2 ⟨m, on, s, er, rfl, hmx, htk, hrd, hmod⟩
  have hx2 := hmod.keep HX1.out (fun h => by have h2 : w.heap.size = r := h; have := HRL.out; omega)
  have hy2 := hmod.keep HY1.out (fun h => by have h2 : w.heap.size + 1 = r := h; have := HRL.out; omega)
  have HK := Lib.hid (kindsT hF hmx htk)
  have HONE : Hid (er = 0 → 1 ≤ on) := fun h => takeR_one htk h
  have HM2 := Lib.hid (HM.out.then_ hmod)
  have HRD := Lib.hid hrd
  have HY2 := Lib.hid hy2
  have d1 : w2.cell? ⟨w.heap.size, 1, none⟩ = some (.int .i64 (zr : Int)) := cell_of_row _ _ 1 _ _ _ hx2
  have b0 : w2.cell? ⟨w.heap.size + 1, 0, none⟩ = some (.int .i64 0) := cell_of_row _ _ 0 _ _ _ hy2
  have b1 : w2.cell? ⟨w.heap.size + 1, 1, none⟩ = some (.int .i64 0) := cell_of_row _ _ 1 _ _ _ hy2
  have b2 : w2.cell? ⟨w.heap.size + 1, 2, none⟩ = some (.int .u32 0) := cell_of_row _ _ 2 _ _ _ hy2
  have f0 : w2.frozen? ⟨w.heap.size + 1, 0, none⟩ = false := frozen_of_row _ _ 0 _ _ hy2
  have f1 : w2.frozen? ⟨w.heap.size + 1, 1, none⟩ = false := frozen_of_row _ _ 1 _ _ hy2
  have f2 : w2.frozen? ⟨w.heap.size + 1, 2, none⟩ = false := frozen_of_row _ _ 2 _ _ hy2
  clear hmx htk hrd hmod hx2 hy2
  rcases HK.out with ⟨rfl, t, rfl, htl, hon, hf⟩ | ⟨hne, rfl, hf⟩
  · have HF := Lib.hid hf
    have hz := (caR_len hr).1
    have hUl : (L.drop p).length = 8 * bs.length - p := by rw [List.length_drop, HLL.out]
    rw [hUl] at hon
    obtain ⟨sb, hsb⟩ : ∃ sb, wdF zr t = sb := ⟨_, rfl⟩
    have hsb13 : sb ≤ 13 := by rw [← hsb]; exact wdF_le zr t
    have HSB := Lib.hid hsb
    have HBA : Hid (∀ W : World, ∃ v ok, Calls Tryz.prog 146 #[.int .i64 ((t : Int) - (zr : Int))] W fun e w' => e = .returned (.tuple #[.int .i64 v, .int .i64 (sb : Int), .bool ok]) ∧ W = w') := fun W => by
      by_cases h30 : zr ≤ t ∧ t - zr < 30
      · have h := base_in (t - zr) W h30.2
        have e1 : ((t - zr : Nat) : Int) = (t : Int) - (zr : Int) := by omega
        have e2 : bitsC (t - zr) = sb := by rw [← HSB.out, wdF, if_pos h30]
        rw [e1, e2] at h
        exact ⟨_, _, h⟩
      · have h := base_out ((t : Int) - (zr : Int)) W (by omega)
        have e2 : sb = 0 := by rw [← HSB.out, wdF, if_neg h30]
        rw [e2]
        exact ⟨_, _, h⟩
    have hwr : IntKind.i64.wrap ((t : Int) - (zr : Int)) = (t : Int) - (zr : Int) := IntWalk.i64_in _ (by omega)
    obtain ⟨bv, bok, hba⟩ := HBA.out w2
    have HBA2 := Lib.hid hba
    have HTK2 := Lib.hid (HTK.out w2 (p + on) sb HRD.out (by omega))
    rw [cnt_nat (by omega)] at HTK2
    clear HK HTK hf hsb HBA hba
    by_cases hfit : p + on + sb ≤ 8 * bs.length
    · obtain ⟨y, hy⟩ : ∃ y, numA L (p + on) sb = y := ⟨_, rfl⟩
      have hyb : y < 8192 := by
        have h1 := numA_lt L (p + on) sb
        have h2 : 2 ^ sb ≤ 2 ^ 13 := Nat.pow_le_pow_right (by decide) hsb13
        omega
      have HP : Hid (clsF F zs zr L p = (0, (t, sb, y), on + sb)) := by
        show _ = _
        unfold clsF
        rw [HF.out]
        dsimp only
        rw [if_neg (by simp), Int.toNat_natCast, HSB.out, if_neg (by rw [HLL.out]; omega), hy]
      have hty : takes bs (p + on) sb = y := by rw [numA_takes hfit, HLE.out, hy]
      rw [(fits_yes hfit).1, (fits_yes hfit).2, hty] at HTK2
      have HA := Lib.hid (show p + on + sb = p + (on + sb) by omega)
      clear hfit hy hty
      go_wp2_with (first
        | (go_at_call 146; refine HBA2.out.mono ?_; rintro e w' ⟨rfl, rfl⟩)
        | (go_at_call 141; refine HTK2.out.mono ?_; rintro e w3 ⟨rfl, hrd3, hm3⟩; have hy3 := hm3.keep HY2.out (fun h => by have h2 : w.heap.size + 1 = r := h; have := HRL.out; omega); have HR3 := Lib.hid hrd3; have HM3 := Lib.hid (HM2.out.then_ hm3); have b0' : w3.cell? ⟨w.heap.size + 1, 0, none⟩ = some (.int .i64 0) := cell_of_row _ _ 0 _ _ _ hy3; have b1' : w3.cell? ⟨w.heap.size + 1, 1, none⟩ = some (.int .i64 0) := cell_of_row _ _ 1 _ _ _ hy3; have b2' : w3.cell? ⟨w.heap.size + 1, 2, none⟩ = some (.int .u32 0) := cell_of_row _ _ 2 _ _ _ hy3; have f0' : w3.frozen? ⟨w.heap.size + 1, 0, none⟩ = false := frozen_of_row _ _ 0 _ _ hy3; have f1' : w3.frozen? ⟨w.heap.size + 1, 1, none⟩ = false := frozen_of_row _ _ 1 _ _ hy3; have f2' : w3.frozen? ⟨w.heap.size + 1, 2, none⟩ = false := frozen_of_row _ _ 2 _ _ hy3; clear hrd3 hm3 hy3))
      refine bodyPost_ret (v := .tuple #[.agg #[.int .i64 (t : Int), .int .i64 (sb : Int), .int .u32 (y : Int)], .int .i64 0]) ?_ rfl ⟨p + (on + sb), by rw [HP.out], ?_, fun _ => by rw [HP.out]; exact ⟨rfl, Nat.le_trans (HONE.out trivial) (Nat.le_add_right _ _), htl, hsb13, hyb⟩, ?_⟩
      · rw [results_cell_tmp rfl]
        go_simp
        try rfl
      · rw [← HA.out]
        exact HSR.out _ _ HR3.out _ _ _
      · exact HST.out _ HM3.out _ _ _
    · have HP : Hid (clsF F zs zr L p = (2, (0, 0, 0), 0)) := by
        show _ = _
        unfold clsF
        rw [HF.out]
        dsimp only
        rw [if_neg (by simp), Int.toNat_natCast, HSB.out, if_pos (by rw [HLL.out]; omega)]
      rw [(fits_no hfit).1, (fits_no hfit).2] at HTK2
      clear hfit
      go_wp2_with (first
        | (go_at_call 146; refine HBA2.out.mono ?_; rintro e w' ⟨rfl, rfl⟩)
        | (go_at_call 141; refine HTK2.out.mono ?_; rintro e w3 ⟨rfl, hrd3, hm3⟩; have hy3 := hm3.keep HY2.out (fun h => by have h2 : w.heap.size + 1 = r := h; have := HRL.out; omega); have HR3 := Lib.hid hrd3; have HM3 := Lib.hid (HM2.out.then_ hm3); have b0' : w3.cell? ⟨w.heap.size + 1, 0, none⟩ = some (.int .i64 0) := cell_of_row _ _ 0 _ _ _ hy3; have b1' : w3.cell? ⟨w.heap.size + 1, 1, none⟩ = some (.int .i64 0) := cell_of_row _ _ 1 _ _ _ hy3; have b2' : w3.cell? ⟨w.heap.size + 1, 2, none⟩ = some (.int .u32 0) := cell_of_row _ _ 2 _ _ _ hy3; have f0' : w3.frozen? ⟨w.heap.size + 1, 0, none⟩ = false := frozen_of_row _ _ 0 _ _ hy3; have f1' : w3.frozen? ⟨w.heap.size + 1, 1, none⟩ = false := frozen_of_row _ _ 1 _ _ hy3; have f2' : w3.frozen? ⟨w.heap.size + 1, 2, none⟩ = false := frozen_of_row _ _ 2 _ _ hy3; clear hrd3 hm3 hy3))
      refine bodyPost_ret (v := .tuple #[.agg #[.int .i64 0, .int .i64 0, .int .u32 0], .int .i64 2]) ?_ rfl ⟨_, by rw [HP.out]; rfl, HSR.out _ _ HR3.out _ _ _, fun h => (by rw [HP.out] at h; cases h), HST.out _ HM3.out _ _ _⟩
      rw [results_cell_tmp rfl]
      go_simp
      try rfl
  · have HP : Hid (clsF F zs zr L p = (er, (0, 0, 0), 0)) := by
      show _ = _
      unfold clsF
      rw [hf]
      exact if_pos hne
    have t1 : (er != 0) = true := by simpa using hne
    have HNE := Lib.hid hne
    clear HK hf hne
    go_wp2
    refine bodyPost_ret (v := .tuple #[.agg #[.int .i64 0, .int .i64 0, .int .u32 0], .int .i64 er]) ?_ rfl ⟨_, by rw [HP.out]; rfl, HSR.out _ _ HRD.out _ _ _, fun h => absurd (by rw [HP.out] at h; exact h) HNE.out, HST.out _ HM2.out _ _ _⟩
    rw [results_cell_tmp rfl]
    go_simp
    try rfl
end Go.Proofs.YtkikgidmioofaaaGreat
/- Layer 13: the reference's class that is taken. -/
namespace Go.Proofs.YtkikgidmioofaaaGreat
open Go.RowKit BitsP SymP

theorem results_cellTT {fn : Func} {p u v : Tmp} {ty : TypeId} (h : fn.results = #[.cell p ty, .tmp u, .tmp v]) (tmps : Array Value) (P : Program) (w : World) :
    (results fn tmps).run P w = ((asAddr (tmps.getD p undef)).run P w).andThen fun a w₁ => ((loadVar ty a).run P w₁).andThen fun x w₂ => .ok (.tuple #[x, tmps.getD u undef, tmps.getD v undef]) w₂ := by
  simp only [results, h]
  simp [Sem.run_bind, Result.andThen]
/-- What a class that is taken answers. -/
def ClsR (F : List Int → List Bool → Int × Int × Nat) (zs : List Int) (zr : Nat) (L : List Bool) (p lr : Nat) (s b : Int) (x nx : Nat) (er : Int) : Prop :=
  er = (clsF F zs zr L p).1 ∧ (er = 0 → s = ((clsF F zs zr L p).2.1.1 : Nat) ∧ b = ((clsF F zs zr L p).2.1.2.1 : Nat) ∧ x = (clsF F zs zr L p).2.1.2.2 ∧ nx = p + (clsF F zs zr L p).2.2 ∧ nx ≤ lr ∧ 1 ≤ (clsF F zs zr L p).2.2 ∧ (clsF F zs zr L p).2.1.1 < zs.length ∧ (clsF F zs zr L p).2.1.2.1 ≤ 13 ∧ (clsF F zs zr L p).2.1.2.2 < 8192)
set_option maxRecDepth 100000 in
set_option maxHeartbeats 1000000 in
theorem rclass13_any (F : List Int → List Bool → Int × Int × Nat) (hF : FunT F) (A1 A2 A3 : Option Addr) (l c1 c2 lr c3 zr : Nat) (zs : List Int) (L : List Bool) (p : Nat) (w : World) (hr : caR zs = true) (hl : zs.length = l) (h1 : Cells w w.heap.size A1 (zs.map ic)) (h2 : Cells w w.heap.size A2 ((caV zs).map ic)) (hL : L.length = lr) (hlr : lr ≤ 1000000) (hc : lr ≤ c3) (h3 : Bytes w w.heap.size A3 (bitBytes L)) (hp : p ≤ lr) (hz : l ≤ zr + 30) :
    Calls Tryz.prog 60 #[.slice A1 l c1, .slice A2 l c2, .slice A3 lr c3, .int .i64 (p : Int), .int .i64 (zr : Int)] w
      fun e w' => ∃ (s b : Int) (x nx : Nat) (er : Int), e = .returned (.tuple #[agC s b (x : Int), .int .i64 (nx : Int), .int .i64 er]) ∧ ClsR F zs zr L p lr s b x nx er ∧ Below w.heap.size w w' := by
  have hb1 : Below w.heap.size w (w.alloc (.cells #[.int .i64 0, .int .i64 0, .int .u32 0] 88)) := (Below.refl _ w).alloc (Nat.le_refl _) _
  obtain ⟨W1, hW1⟩ : ∃ W1, w.alloc (.cells #[.int .i64 0, .int .i64 0, .int .u32 0] 88) = W1 := ⟨_, rfl⟩
  have HX1 : Hid (W1.heap[w.heap.size]? = some (.cells #[.int .i64 0, .int .i64 0, .int .u32 0] 88 (0, 0))) := by show _ = _; rw [← hW1]; exact heap_alloc_new w _
  rw [hW1] at hb1
  have HB1 := Lib.hid hb1
  have hs1 := hb1.size
  have HT := Lib.hid (refTake8_any A1 A2 A3 l c1 c2 lr c3 zs L p W1 hr hl ((h1.below hb1 (Nat.le_refl _)).more hs1) ((h2.below hb1 (Nat.le_refl _)).more hs1) hL hlr hc ((h3.below hb1 (Nat.le_refl _)).more hs1) hp)
  have HNUM : Hid (∀ (W : World) (a b : Nat), Below w.heap.size w W → a ≤ 2000000 → b ≤ 32 → Calls Tryz.prog 29 #[.slice A3 lr c3, .int .i64 (a : Int), .int .i64 (b : Int)] W fun e w' => e = .returned (.int .u32 (numA L a b : Nat)) ∧ W = w') := fun W a b hW ha hb32 => by
    have h := refNumber_any A3 lr c3 w.heap.size L a (b : Int) W hL (by omega) (by omega) (by omega) (by omega) (h3.below hW (Nat.le_refl _))
    rw [cnt_nat hb32] at h
    exact h
  have HMX := Lib.hid (caR_max hr)
  have HLL := Lib.hid hL
  have HZL := Lib.hid hl
  have HCR := Lib.hid (caR_len hr).1
  have HW1 := Lib.hid hW1
  clear h1 h2 h3 hb1 hr hL hl hW1
  go_enter Tryz.func60, Tryz.ntmps60
  go_upto_region 1 with fail
  rw [HW1.out]
  go_wp2_with fail
  refine HT.out.mono ?_
  rintro e w2 ⟨on, s, er, rfl, htk, hb2⟩
  have hb12 := HB1.out.trans (hb2.mono hs1)
  have HB2 := Lib.hid hb12
  have hx2 := (hb2.block _ (Array.getElem?_eq_some_iff.1 HX1.out).1).trans HX1.out
  have HX2 := Lib.hid hx2
  obtain ⟨mx, hmx⟩ := HMX.out
  have HK := Lib.hid (kindsT hF hmx (htk mx hmx))
  have HONE : Hid (er = 0 → 1 ≤ on) := fun h => takeR_one (htk mx hmx) h
  have b0 : w2.cell? ⟨w.heap.size, 0, none⟩ = some (.int .i64 0) := cell_of_row _ _ 0 _ _ _ hx2
  have b1 : w2.cell? ⟨w.heap.size, 1, none⟩ = some (.int .i64 0) := cell_of_row _ _ 1 _ _ _ hx2
  have b2 : w2.cell? ⟨w.heap.size, 2, none⟩ = some (.int .u32 0) := cell_of_row _ _ 2 _ _ _ hx2
  have f0 : w2.frozen? ⟨w.heap.size, 0, none⟩ = false := frozen_of_row _ _ 0 _ _ hx2
  have f1 : w2.frozen? ⟨w.heap.size, 1, none⟩ = false := frozen_of_row _ _ 1 _ _ hx2
  have f2 : w2.frozen? ⟨w.heap.size, 2, none⟩ = false := frozen_of_row _ _ 2 _ _ hx2
  have HST : Hid (∀ v u x, Below w.heap.size w (((w2.setCell ⟨w.heap.size, 0, none⟩ v).setCell ⟨w.heap.size, 1, none⟩ u).setCell ⟨w.heap.size, 2, none⟩ x)) := fun v u x => ((HB2.out.setCell (Nat.le_refl _) v).setCell (Nat.le_refl _) u).setCell (Nat.le_refl _) x
  clear hb2 hb12 htk hmx HT hx2
  rcases HK.out with ⟨rfl, t, rfl, htl, hon, hf⟩ | ⟨hne, rfl, hf⟩
  · have HF := Lib.hid hf
    have hz320 := HCR.out
    have hUl : (L.drop p).length = lr - p := by rw [List.length_drop, HLL.out]
    rw [hUl] at hon
    rw [HZL.out] at htl hz320
    have HTL := Lib.hid htl
    obtain ⟨q, hq⟩ : ∃ q, p + on = q := ⟨_, rfl⟩
    have e1 : (p : Int) + (on : Int) = (q : Int) := by omega
    have HQ := Lib.hid hq
    have hql : q ≤ lr := by omega
    have ho := HONE.out rfl
    clear HK hf hq hUl HONE
    by_cases hz0 : zr ≤ t
    · obtain ⟨k, hk⟩ : ∃ k, t - zr = k := ⟨_, rfl⟩
      have hk30 : k < 30 := by omega
      obtain ⟨sb, hsb⟩ : ∃ sb, bitsC k = sb := ⟨_, rfl⟩
      have hsb13 : sb ≤ 13 := by rw [← hsb]; exact bitsC_le _ hk30
      have HW : Hid (wdF zr t = sb) := by show _ = _; rw [wdF, if_pos ⟨hz0, by omega⟩, hk, hsb]
      have e2 : (t : Int) - (zr : Int) = (k : Int) := by omega
      have HBI := Lib.hid (fun W => bits12_any k W hk30)
      rw [hsb] at HBI
      have t1 : decide ((t : Int) < (zr : Int)) = false := decide_eq_false (by omega)
      have t1n : decide (t < zr) = false := decide_eq_false (by omega)
      clear hk hsb
      by_cases hfit : q + sb ≤ lr
      · obtain ⟨y, hy⟩ : ∃ y, numA L q sb = y := ⟨_, rfl⟩
        have hyb : y < 8192 := by
          have h1 := numA_lt L q sb
          have h2 : 2 ^ sb ≤ 2 ^ 13 := Nat.pow_le_pow_right (by decide) hsb13
          omega
        have HN := Lib.hid (HNUM.out w2 q sb HB2.out (by omega) (by omega))
        rw [hy] at HN
        have HP : Hid (clsF F zs zr L p = (0, (t, sb, y), on + sb)) := by
          show _ = _
          unfold clsF
          rw [HF.out]
          dsimp only
          rw [if_neg (by simp), Int.toNat_natCast, HW.out, if_neg (by rw [HLL.out]; have := HQ.out; omega), HQ.out, hy]
        have HQ2 : Hid (q + sb = p + (on + sb)) := by have := HQ.out; show _ = _; omega
        have t2 : decide ((lr : Int) - (q : Int) < (sb : Int)) = false := decide_eq_false (by omega)
        have HFI := Lib.hid hfit
        clear hfit hy HNUM
        go_wp2_with (first
          | (go_at_call 98; refine (HBI.out _).mono ?_; rintro e w' ⟨rfl, rfl⟩)
          | (go_at_call 29; refine HN.out.mono ?_; rintro e w' ⟨rfl, rfl⟩))
        refine bodyPost_ret (v := .tuple #[agC (t : Int) (sb : Int) (y : Int), .int .i64 ((q + sb : Nat) : Int), .int .i64 0]) ?_ rfl ⟨t, sb, y, q + sb, 0, rfl, ?_, HST.out _ _ _⟩
        · rw [results_cellTT rfl]
          go_simp
          try rfl
        · unfold ClsR
          rw [HP.out, HZL.out]
          have hfi := HFI.out
          dsimp only
          exact ⟨rfl, fun _ => ⟨rfl, rfl, rfl, HQ2.out, hfi, by omega, HTL.out, hsb13, hyb⟩⟩
      · have HP : Hid (clsF F zs zr L p = (2, (0, 0, 0), 0)) := by
          show _ = _
          unfold clsF
          rw [HF.out]
          dsimp only
          rw [if_neg (by simp), Int.toNat_natCast, HW.out, if_pos (by rw [HLL.out]; have := HQ.out; omega)]
        have t2 : decide ((lr : Int) - (q : Int) < (sb : Int)) = true := decide_eq_true (by omega)
        clear hfit
        go_wp2_with (go_at_call 98; refine (HBI.out _).mono ?_; rintro e w' ⟨rfl, rfl⟩)
        refine bodyPost_ret (v := .tuple #[agC 0 0 0, .int .i64 (q : Int), .int .i64 2]) ?_ rfl ⟨0, 0, 0, q, 2, rfl, ?_, HST.out _ _ _⟩
        · rw [results_cellTT rfl]
          go_simp
          try rfl
        · unfold ClsR
          rw [HP.out]
          exact ⟨rfl, fun h => by cases h⟩
    · have HW : Hid (wdF zr t = 0) := by show _ = _; rw [wdF, if_neg (by omega)]
      have HP : Hid (clsF F zs zr L p = (0, (t, 0, numA L q 0), on)) := by
        show _ = _
        unfold clsF
        rw [HF.out]
        dsimp only
        rw [if_neg (by simp), Int.toNat_natCast, HW.out, if_neg (by rw [HLL.out]; have := HQ.out; omega), HQ.out]
        rfl
      have HN0 : Hid (numA L q 0 = 0) := by have h := numA_lt L q 0; show _ = _; omega
      have t1 : decide ((t : Int) < (zr : Int)) = true := decide_eq_true (by omega)
      have t1n : decide (t < zr) = true := decide_eq_true (by omega)
      clear hz0
      go_wp2
      refine bodyPost_ret (v := .tuple #[agC (t : Int) 0 0, .int .i64 (q : Int), .int .i64 0]) ?_ rfl ⟨t, 0, 0, q, 0, rfl, ?_, HST.out _ _ _⟩
      · rw [results_cellTT rfl]
        go_simp
        try rfl
      · unfold ClsR
        rw [HP.out, HN0.out, HZL.out]
        dsimp only
        exact ⟨rfl, fun _ => ⟨rfl, rfl, rfl, HQ.out.symm, hql, ho, HTL.out, by omega, by omega⟩⟩
  · have HP : Hid (clsF F zs zr L p = (er, (0, 0, 0), 0)) := by
      show _ = _
      unfold clsF
      rw [hf]
      exact if_pos hne
    have t1 : (er != 0) = true := by simpa using hne
    have HNE := Lib.hid hne
    clear HK hf hne
    go_wp2
    refine bodyPost_ret (v := .tuple #[agC s 0 0, .int .i64 (p : Int), .int .i64 er]) ?_ rfl ⟨s, 0, 0, p, er, rfl, ?_, HST.out _ _ _⟩
    · rw [results_cellTT rfl]
      go_simp
      try rfl
    · unfold ClsR
      rw [HP.out]
      exact ⟨rfl, fun h => absurd h HNE.out⟩
end Go.Proofs.YtkikgidmioofaaaGreat
/- Layer 13: both tables are taken. -/
namespace Go.Proofs.YtkikgidmioofaaaGreat
open Go.RowKit BitsP SymP

/-- Two alphabets' cells. -/
def alC (a : Value) (n : Int) (b : Value) (m : Int) : Array Value := #[a, .int .i64 n, b, .int .i64 m]
theorem row4_facts {w : World} {g : Nat} {a : Value} {n : Int} {b : Value} {m : Int} (h : w.heap[g]? = some (.cells (alC a n b m) 150 (0, 0))) :
    (w.cell? ⟨g, 0, none⟩ = some a ∧ w.cell? ⟨g, 1, none⟩ = some (.int .i64 n) ∧ w.cell? ⟨g, 2, none⟩ = some b ∧ w.cell? ⟨g, 3, none⟩ = some (.int .i64 m)) ∧ (w.frozen? ⟨g, 0, none⟩ = false ∧ w.frozen? ⟨g, 1, none⟩ = false ∧ w.frozen? ⟨g, 2, none⟩ = false ∧ w.frozen? ⟨g, 3, none⟩ = false) :=
  ⟨⟨cell_of_row _ _ 0 _ _ _ h, cell_of_row _ _ 1 _ _ _ h, cell_of_row _ _ 2 _ _ _ h, cell_of_row _ _ 3 _ _ _ h⟩, frozen_of_row _ _ 0 _ _ h, frozen_of_row _ _ 1 _ _ h, frozen_of_row _ _ 2 _ _ h, frozen_of_row _ _ 3 _ _ h⟩
/-- What takeAlphabets leaves. -/
def AlPost (F : List Int → List Bool → Int × Int × Nat) (w w' : World) (r base : Nat) (S : Nat → Prop) (bs : List UInt8) (p : Nat) (e : Ending) : Prop :=
  ∃ (a b : Option Addr) (n m er : Int) (p' : Nat), e = .returned (.tuple #[.agg (alC (.pointer a) n (.pointer b) m), .int .i64 er]) ∧ RdS w' r base S bs p' ∧ Mod (oneB r) w w' ∧
    ((er ≠ 0 ∧ ∀ most, blkF F (unpack bs) p most = (er, [], 0)) ∨
     (er = 0 ∧ ∃ (z1 z2 : List Int) (ga gb : Nat), a = some ⟨ga, 0, none⟩ ∧ b = some ⟨gb, 0, none⟩ ∧ n = 257 ∧ m = 0 ∧ caR z1 = true ∧ caR z2 = true ∧ z1.length = 273 ∧ z2.length = 30 ∧ LCa w' w.heap.size ga z1 ∧ LCa w' w.heap.size gb z2 ∧
       ∀ most, blkF F (unpack bs) p most = blkL F z1 z2 (unpack bs) most ((unpack bs).length + 1 - p') [] 0 p'))
set_option maxRecDepth 100000 in
set_option maxHeartbeats 2000000 in
theorem tkalph_any (F : List Int → List Bool → Int × Int × Nat) (hF : FunT F) (r base : Nat) (S : Nat → Prop) (bs : List UInt8) (p : Nat) (w : World) (hrd : RdS w r base S bs p) (hbl : bs.length ≤ 1000000) :
    Calls Tryz.prog 89 #[.pointer (some ⟨r, 0, none⟩)] w fun e w' => AlPost F w w' r base S bs p e := by
  obtain ⟨hrl0, hp8, _⟩ := rd_low hrd
  obtain ⟨W1, hW1⟩ : ∃ W1, w.alloc (.cells #[.pointer none, .int .i64 0, .pointer none, .int .i64 0] 150) = W1 := ⟨_, rfl⟩
  have hb1 : Below w.heap.size w W1 := by rw [← hW1]; exact (Below.refl _ w).alloc (Nat.le_refl _) _
  have HX1 : Hid (W1.heap[w.heap.size]? = some (.cells (alC (.pointer none) 0 (.pointer none) 0) 150 (0, 0))) := by show _ = _; rw [← hW1]; exact heap_alloc_new w _
  have HM : Hid (Mod (oneB r) w W1) := (Mod.of_below hb1).mono (fun _ h => h.elim)
  have HRL : Hid (r < w.heap.size) := hrl0
  have hs1 : w.heap.size < W1.heap.size := by rw [← hW1]; simp
  have HT := Lib.hid (rntake_any F hF r base S bs p W1 (hrd.keep (Mod.of_below hb1) (fun _ _ h => h)) hbl)
  have HT2 : Hid (∀ (W : World) (p' : Nat), RdS W r base S bs p' → _) := fun W p' hW => rntake_any F hF r base S bs p' W hW hbl
  have HSL : Hid (∀ k, S k → k < w.heap.size) := hrd.lt
  have HKP : Hid (∀ (W W' : World), W.heap[w.heap.size]? = some (.cells (alC (.pointer none) 0 (.pointer none) 0) 150 (0, 0)) → Mod (oneB r) W W' → W'.heap[w.heap.size]? = some (.cells (alC (.pointer none) 0 (.pointer none) 0) 150 (0, 0))) := fun W W' h hm => hm.keep h (fun h => by have h2 : w.heap.size = r := h; have := HRL.out; omega)
  have HST : Hid (∀ W : World, Mod (oneB r) w W → ∀ a b c d, Mod (oneB r) w ((((W.setCell ⟨w.heap.size, 0, none⟩ a).setCell ⟨w.heap.size, 1, none⟩ b).setCell ⟨w.heap.size, 2, none⟩ c).setCell ⟨w.heap.size, 3, none⟩ d)) := fun W hW a b c d => (((hW.set _ _ (.inr (Nat.le_refl _))).set _ _ (.inr (Nat.le_refl _))).set _ _ (.inr (Nat.le_refl _))).set _ _ (.inr (Nat.le_refl _))
  have HSM : Hid (∀ (W : World) a b c d, Mod (oneB w.heap.size) W ((((W.setCell ⟨w.heap.size, 0, none⟩ a).setCell ⟨w.heap.size, 1, none⟩ b).setCell ⟨w.heap.size, 2, none⟩ c).setCell ⟨w.heap.size, 3, none⟩ d)) := fun W a b c d => ((((Mod.refl (oneB w.heap.size) W).set ⟨w.heap.size, 0, none⟩ a (.inl rfl)).set ⟨w.heap.size, 1, none⟩ b (.inl rfl)).set ⟨w.heap.size, 2, none⟩ c (.inl rfl)).set ⟨w.heap.size, 3, none⟩ d (.inl rfl)
  have HSR : Hid (∀ (W : World) (q : Nat), RdS W r base S bs q → ∀ a b c d, RdS ((((W.setCell ⟨w.heap.size, 0, none⟩ a).setCell ⟨w.heap.size, 1, none⟩ b).setCell ⟨w.heap.size, 2, none⟩ c).setCell ⟨w.heap.size, 3, none⟩ d) r base S bs q) := fun W q hW a b c d => hW.keep (HSM.out W a b c d) (fun k hk h => by have h2 : k = w.heap.size := h; have := HSL.out k hk; omega)
  have HBK : Hid (∀ most, blkF F (unpack bs) p most = blkF F (unpack bs) p most) := fun _ => rfl
  clear hrd hb1
  go_enter Tryz.func89, Tryz.ntmps89
  go_wp2_with fail
  refine HT.out.mono ?_
  rintro e w2 ⟨A2, c2, p2, rfl, hown2, hrd2, hpe2, hm2⟩
  have HO2 := Lib.hid hown2
  have HR2 := Lib.hid hrd2
  have HM2 := Lib.hid (HM.out.then_ hm2)
  have HX2 := Lib.hid (HKP.out _ _ HX1.out hm2)
  have HPE2 := Lib.hid hpe2
  have hs2 := hm2.size
  obtain ⟨⟨c20, c21, c22, c23⟩, f20, f21, f22, f23⟩ := row4_facts HX2.out
  clear hown2 hrd2 hm2 hpe2 HT
  obtain ⟨ta, hta⟩ : ∃ ta, tkF F (unpack bs) p = ta := ⟨_, rfl⟩
  have HTA := Lib.hid hta
  rw [hta] at HO2 HPE2 ⊢
  clear hta
  obtain ⟨er1, ns1, pe1⟩ := ta
  dsimp only at HO2 HPE2 ⊢
  by_cases he1 : er1 = 0
  · subst he1
    obtain rfl := HPE2.out rfl
    have HT3 := Lib.hid (HT2.out w2 _ HR2.out)
    clear HPE2
    go_wp2_with fail
    refine HT3.out.mono ?_
    rintro e w3 ⟨A3, c3, p3, rfl, hown3, hrd3, hpe3, hm3⟩
    have HO3 := Lib.hid hown3
    have HR3 := Lib.hid hrd3
    have HM3 := Lib.hid (HM2.out.then_ hm3)
    have HX3 := Lib.hid (HKP.out _ _ HX2.out hm3)
    have HPE3 := Lib.hid hpe3
    have HO23 := Lib.hid (own_keep HO2.out hm3 (fun k hk hS => by have h2 : k = r := hS; have := own_base HO2.out k hk; have := HRL.out; omega))
    have hs3 := hm3.size
    obtain ⟨⟨c30, c31, c32, c33⟩, f30, f31, f32, f33⟩ := row4_facts HX3.out
    clear hown3 hrd3 hm3 hpe3 HT3 HT2 c20 c21 c22 c23 f20 f21 f22 f23
    obtain ⟨tb, htb⟩ : ∃ tb, tkF F (unpack bs) p2 = tb := ⟨_, rfl⟩
    have HTB := Lib.hid htb
    rw [htb] at HO3 HPE3 ⊢
    clear htb
    obtain ⟨er2, ns2, pe2⟩ := tb
    dsimp only at HO3 HPE3 ⊢
    by_cases he2 : er2 = 0
    · subst he2
      obtain rfl := HPE3.out rfl
      clear HPE3
      obtain ⟨l1, hl1⟩ : ∃ l1, ns1.length = l1 := ⟨_, rfl⟩
      obtain ⟨l2, hl2⟩ : ∃ l2, ns2.length = l2 := ⟨_, rfl⟩
      have HL1 := Lib.hid hl1
      have HL2 := Lib.hid hl2
      rw [hl1] at HO2 HO23 ⊢
      rw [hl2] at HO3 ⊢
      clear hl1 hl2
      by_cases hlen : l1 ≠ 273 ∨ l2 ≠ 30
      · have HB : Hid (∀ most, blkF F (unpack bs) p most = (3, [], 0)) := fun most => by
          unfold blkF
          rw [HTA.out]
          dsimp only
          rw [if_neg (by simp), HTB.out]
          dsimp only
          rw [if_neg (by simp), HL1.out, HL2.out, if_pos hlen]
        have t1 : ((l1 : Int) != 273) = true ∨ (((l1 : Int) != 273) = false ∧ ((l2 : Int) != 30) = true) := by
          by_cases h1 : l1 = 273
          · exact .inr ⟨by simp; omega, by simp; omega⟩
          · exact .inl (by simp; omega)
        clear hlen
        rcases t1 with t1 | ⟨t1, t2⟩
        · go_wp2
          refine bodyPost_ret (v := .tuple #[.agg (alC (.pointer none) 0 (.pointer none) 0), .int .i64 3]) ?_ rfl ⟨_, _, _, _, 3, p3, rfl, ?_, ?_, .inl ⟨by decide, HB.out⟩⟩
          · rw [results_cell_tmp rfl]
            go_simp
            try rfl
          · first | exact HR3.out | exact HSR.out _ _ HR3.out _ _ _ _
          · first | exact HM3.out | exact HST.out _ HM3.out _ _ _ _
        · go_wp2
          refine bodyPost_ret (v := .tuple #[.agg (alC (.pointer none) 0 (.pointer none) 0), .int .i64 3]) ?_ rfl ⟨_, _, _, _, 3, p3, rfl, ?_, ?_, .inl ⟨by decide, HB.out⟩⟩
          · rw [results_cell_tmp rfl]
            go_simp
            try rfl
          · first | exact HR3.out | exact HSR.out _ _ HR3.out _ _ _ _
          · first | exact HM3.out | exact HST.out _ HM3.out _ _ _ _
      · obtain ⟨rfl, rfl⟩ : l1 = 273 ∧ l2 = 30 := by omega
        clear hlen
        obtain ⟨z1, hz1⟩ : ∃ z1 : List Int, (ns1.map fun n : Nat => (n : Int)) = z1 := ⟨_, rfl⟩
        obtain ⟨z2, hz2⟩ : ∃ z2 : List Int, (ns2.map fun n : Nat => (n : Int)) = z2 := ⟨_, rfl⟩
        have HZ1 := Lib.hid hz1
        have HZ2 := Lib.hid hz2
        have hzl1 : z1.length = 273 := by rw [← hz1, List.length_map]; exact HL1.out
        have hzl2 : z2.length = 30 := by rw [← hz2, List.length_map]; exact HL2.out
        have HC1 : Hid (Cells w3 w3.heap.size A2 (z1.map ic)) := by show Cells _ _ _ _; rw [← hz1, nCs_ic]; exact Cells.of_own HO23.out
        have HC2 : Hid (Cells w3 w3.heap.size A3 (z2.map ic)) := by show Cells _ _ _ _; rw [← hz2, nCs_ic]; exact Cells.of_own HO3.out
        have HB : Hid (∀ most, blkF F (unpack bs) p most = if caR z1 = false ∨ caR z2 = false then (13, [], 0) else blkL F z1 z2 (unpack bs) most ((unpack bs).length + 1 - p3) [] 0 p3) := fun most => by
          unfold blkF
          rw [HTA.out]
          dsimp only
          rw [if_neg (by simp), HTB.out]
          dsimp only
          rw [if_neg (by simp), HL1.out, HL2.out, if_neg (by omega), HZ1.out, HZ2.out]
        clear hz1 hz2
        cases hr1 : caR z1 with
        | false =>
          have HN := Lib.hid (new_no A2 273 c2 z1 w3.heap.size w3 hzl1 (by omega) HC1.out hr1)
          have HB2 : Hid (∀ most, blkF F (unpack bs) p most = (13, [], 0)) := fun most => by rw [HB.out, if_pos (.inl hr1)]
          clear hr1 HB
          go_wp2_with (go_at_call 71; refine HN.out.mono ?_; rintro e w4 ⟨rfl, rfl⟩)
          refine bodyPost_ret (v := .tuple #[.agg (alC (.pointer none) 0 (.pointer none) 0), .int .i64 13]) ?_ rfl ⟨_, _, _, _, 13, p3, rfl, ?_, ?_, .inl ⟨by decide, HB2.out⟩⟩
          · rw [results_cell_tmp rfl]
            go_simp
            try rfl
          · first | exact HR3.out | exact HSR.out _ _ HR3.out _ _ _ _
          · first | exact HM3.out | exact HST.out _ HM3.out _ _ _ _
        | true =>
          have HN := Lib.hid (new_low A2 273 c2 z1 w3.heap.size w3 hzl1 (by omega) HC1.out (Nat.le_refl _) hr1)
          have HR1 := Lib.hid hr1
          rw [hr1] at HB
          clear hr1
          go_wp2_with fail
          refine HN.out.mono ?_
          rintro e w4 ⟨ga, rfl, hla, hb4⟩
          have HLA := Lib.hid hla
          have HM4 := Lib.hid (HM3.out.then_ ((Mod.of_below hb4).mono fun _ h => h.elim))
          have HR4 := Lib.hid (HR3.out.keep (Mod.of_below hb4) (fun _ _ h => h))
          have HC4 := Lib.hid (HC2.out.below hb4 (Nat.le_refl _))
          have HX4 := Lib.hid (show w4.heap[w.heap.size]? = _ from (hb4.block w.heap.size (Array.getElem?_eq_some_iff.1 HX3.out).1).trans HX3.out)
          have hs4 := hb4.size
          obtain ⟨⟨c40, c41, c42, c43⟩, f40, f41, f42, f43⟩ := row4_facts HX4.out
          clear hla hb4 HN c30 c31 c32 c33 f30 f31 f32 f33
          cases hr2 : caR z2 with
          | false =>
            have HN := Lib.hid (new_no A3 30 c3 z2 w3.heap.size w4 hzl2 (by omega) HC4.out hr2)
            have HB2 : Hid (∀ most, blkF F (unpack bs) p most = (13, [], 0)) := fun most => by rw [HB.out, if_pos (.inr hr2)]
            clear hr2 HB
            go_wp2_with (go_at_call 71; refine HN.out.mono ?_; rintro e w5 ⟨rfl, rfl⟩)
            refine bodyPost_ret (v := .tuple #[.agg (alC (.pointer (some ⟨ga, 0, none⟩)) 257 (.pointer none) 0), .int .i64 13]) ?_ rfl ⟨_, _, _, _, 13, p3, rfl, ?_, ?_, .inl ⟨by decide, HB2.out⟩⟩
            · rw [results_cell_tmp rfl]
              go_simp
              try rfl
            · exact HSR.out _ _ HR4.out _ _ _ _
            · exact HST.out _ HM4.out _ _ _ _
          | true =>
            have HN := Lib.hid (new_low A3 30 c3 z2 w3.heap.size w4 hzl2 (by omega) HC4.out hs4 hr2)
            have HR2' := Lib.hid hr2
            have HB2 : Hid (∀ most, blkF F (unpack bs) p most = blkL F z1 z2 (unpack bs) most ((unpack bs).length + 1 - p3) [] 0 p3) := fun most => by rw [HB.out, if_neg (by rw [hr2]; simp)]
            clear hr2 HB
            go_wp2_with (go_at_call 71; refine HN.out.mono ?_; rintro e w5 ⟨gb, rfl, hlb, hb5⟩; have HLB := Lib.hid hlb; have HLA5 := Lib.hid (HLA.out.keep2 (Mod.of_below hb5) (fun _ h => h.elim)); have HM5 := Lib.hid (HM4.out.then_ ((Mod.of_below hb5).mono fun _ h => h.elim)); have HR5 := Lib.hid (HR4.out.keep (Mod.of_below hb5) (fun _ _ h => h)); obtain ⟨⟨c50, c51, c52, c53⟩, f50, f51, f52, f53⟩ := row4_facts ((hb5.block w.heap.size (Array.getElem?_eq_some_iff.1 HX4.out).1).trans HX4.out); clear hlb hb5)
            refine bodyPost_ret (v := .tuple #[.agg (alC (.pointer (some ⟨ga, 0, none⟩)) 257 (.pointer (some ⟨gb, 0, none⟩)) 0), .int .i64 0]) ?_ rfl ⟨_, _, _, _, 0, p3, rfl, ?_, ?_, .inr ⟨rfl, z1, z2, ga, gb, rfl, rfl, rfl, rfl, HR1.out, HR2'.out, hzl1, hzl2, ?_, ?_, HB2.out⟩⟩
            · rw [results_cell_tmp rfl]
              go_simp
              try rfl
            · exact HSR.out _ _ HR5.out _ _ _ _
            · exact HST.out _ HM5.out _ _ _ _
            · exact (HLA5.out.keep2 (HSM.out _ _ _ _ _) (fun k hk => by have h2 : k = w.heap.size := hk; omega)).lower (by omega)
            · exact (HLB.out.keep2 (HSM.out _ _ _ _ _) (fun k hk => by have h2 : k = w.heap.size := hk; omega)).lower (by omega)
    · have HB : Hid (∀ most, blkF F (unpack bs) p most = (er2, [], 0)) := fun most => by
        unfold blkF
        rw [HTA.out]
        dsimp only
        rw [if_neg (by simp), HTB.out]
        exact if_pos he2
      have t1 : (er2 != 0) = true := by simpa using he2
      have HE2 := Lib.hid he2
      clear he2 HPE3
      go_wp2
      refine bodyPost_ret (v := .tuple #[.agg (alC (.pointer none) 0 (.pointer none) 0), .int .i64 er2]) ?_ rfl ⟨_, _, _, _, er2, p3, rfl, ?_, ?_, .inl ⟨HE2.out, HB.out⟩⟩
      · rw [results_cell_tmp rfl]
        go_simp
        try rfl
      · first | exact HR3.out | exact HSR.out _ _ HR3.out _ _ _ _
      · first | exact HM3.out | exact HST.out _ HM3.out _ _ _ _
  · have HB : Hid (∀ most, blkF F (unpack bs) p most = (er1, [], 0)) := fun most => by
      unfold blkF
      rw [HTA.out]
      exact if_pos he1
    have t1 : (er1 != 0) = true := by simpa using he1
    have HE1 := Lib.hid he1
    clear he1 HPE2
    go_wp2
    refine bodyPost_ret (v := .tuple #[.agg (alC (.pointer none) 0 (.pointer none) 0), .int .i64 er1]) ?_ rfl ⟨_, _, _, _, er1, p2, rfl, ?_, ?_, .inl ⟨HE1.out, HB.out⟩⟩
    · rw [results_cell_tmp rfl]
      go_simp
      try rfl
    · first | exact HR2.out | exact HSR.out _ _ HR2.out _ _ _ _
    · first | exact HM2.out | exact HST.out _ HM2.out _ _ _ _
end Go.Proofs.YtkikgidmioofaaaGreat
/- Layer 13: tokens are taken. -/
namespace Go.Proofs.YtkikgidmioofaaaGreat
open Go.RowKit BitsP SymP

/-- A token's cells. -/
def tcC (t : Tk) : List Value := [.int .u8 (t.1.toNat : Int), .int .i64 (t.2.1 : Int), .int .i64 (t.2.2 : Int)]
theorem tcElem : Elem Tryz.prog 46 71 (.agg #[.int .u8 0, .int .i64 0, .int .i64 0]) 3 24 := Elem.of Tryz.underlying46 (by kernel_rfl) (by kernel_rfl) (by omega)
/-- What the loop keeps: the tokens, the reader, the alphabets. -/
structure TsI (w W : World) (r base : Nat) (S : Nat → Prop) (bs : List UInt8) (p ga gb : Nat) (v : Value) (ts : List Tk) : Prop where
  row : W.ownsRow (w.heap.size + 1) 71 3 v ts.length (ts.flatMap tcC)
  rd : RdS W r base S bs p
  mod : Mod (oneB r) w W
  box : W.heap[w.heap.size]? = some (.cells (alC (.pointer (some ⟨ga, 0, none⟩)) 257 (.pointer (some ⟨gb, 0, none⟩)) 0) 150 (0, 0))
section
variable {w W W' : World} {r base p p' ga gb : Nat} {S : Nat → Prop} {bs : List UInt8} {v v' : Value} {ts ts' : List Tk}
theorem TsI.part (h : TsI w W r base S bs p ga gb v ts) (hr : r < w.heap.size) (hm : Mod (oneB r) W W') (hrd : RdS W' r base S bs p') : TsI w W' r base S bs p' ga gb v ts :=
  ⟨own_keep h.row hm (fun k hk hs => by have h2 : k = r := hs; have := own_base h.row k hk; omega), hrd, h.mod.then_ hm, hm.keep h.box (fun hs => by have h2 : w.heap.size = r := hs; omega)⟩
theorem TsI.below (h : TsI w W r base S bs p ga gb v ts) (hb : Below W.heap.size W W') : TsI w W' r base S bs p ga gb v ts :=
  ⟨own_keep h.row (Mod.of_below hb) (fun _ _ h => h), h.rd.keep (Mod.of_below hb) (fun _ _ h => h), h.mod.then_ ((Mod.of_below hb).mono fun _ h => h.elim), (hb.block _ (Array.getElem?_eq_some_iff.1 h.box).1).trans h.box⟩
/-- A block that is none of these changes. -/
theorem TsI.other {g : Nat} (h : TsI w W r base S bs p ga gb v ts) (hSL : ∀ k, S k → k < w.heap.size) (hg : w.heap.size < g) (hv : v.ownBlock ≠ some g) (hm : Mod (oneB g) W W') : TsI w W' r base S bs p ga gb v ts :=
  ⟨own_keep h.row hm (fun k hk hs => by have h2 : k = g := hs; exact hv (h2 ▸ hk)), h.rd.keep hm (fun k hk hs => by have h2 : k = g := hs; have := hSL k hk; omega), h.mod.trans hm (fun k hs => .inr (by have h2 : k = g := hs; omega)), hm.keep h.box (fun hs => by have h2 : w.heap.size = g := hs; omega)⟩
theorem TsI.app {m : Nat} {xs : List Value} (h : TsI w W r base S bs p ga gb v ts) (hSL : ∀ k, S k → k < w.heap.size) (ha : App W (w.heap.size + 1) 71 3 v m xs W' v') (hm : m = ts'.length) (hx : xs = ts'.flatMap tcC) : TsI w W' r base S bs p ga gb v' ts' := by
  subst hm hx
  exact ⟨ha.own, h.rd.keep (Mod.of_app ha) (fun k hk hs => by have := hSL k hk; have := own_base h.row k hs; omega), h.mod.trans (Mod.of_app ha) (fun k hk => .inr (by have := own_base h.row k hk; omega)), (Mod.of_app ha).keep h.box (fun hk => by have := own_base h.row _ hk; omega)⟩
end
/-- A row in memory. -/
def RowB (W : World) (R : Nat) (c1 c2 : Nat × Nat × Nat) (m : Bool) : Prop := W.heap[R]? = some (.cells #[.int .i64 (c1.1 : Int), .int .i64 (c1.2.1 : Int), .int .u32 (c1.2.2 : Int), .int .i64 (c2.1 : Int), .int .i64 (c2.2.1 : Int), .int .u32 (c2.2.2 : Int), .bool m] 75 (0, 0))
def PtrB (W : World) (R : Nat) : Prop := W.heap[R + 1]? = some (.cells #[.pointer (some ⟨R, 0, none⟩), .pointer (some ⟨R, 3, none⟩)] 191 (0, 0))
theorem rowB_cells {W : World} {R : Nat} {c1 c2 : Nat × Nat × Nat} {m : Bool} (h : RowB W R c1 c2 m) : W.cell? ⟨R, 0, none⟩ = some (.int .i64 (c1.1 : Int)) ∧ W.cell? ⟨R, 1, none⟩ = some (.int .i64 (c1.2.1 : Int)) ∧ W.cell? ⟨R, 2, none⟩ = some (.int .u32 (c1.2.2 : Int)) ∧ W.cell? ⟨R, 3, none⟩ = some (.int .i64 (c2.1 : Int)) ∧ W.cell? ⟨R, 4, none⟩ = some (.int .i64 (c2.2.1 : Int)) ∧ W.cell? ⟨R, 5, none⟩ = some (.int .u32 (c2.2.2 : Int)) ∧ W.cell? ⟨R, 6, none⟩ = some (.bool m) :=
  ⟨cell_of_row _ _ 0 _ _ _ h, cell_of_row _ _ 1 _ _ _ h, cell_of_row _ _ 2 _ _ _ h, cell_of_row _ _ 3 _ _ _ h, cell_of_row _ _ 4 _ _ _ h, cell_of_row _ _ 5 _ _ _ h, cell_of_row _ _ 6 _ _ _ h⟩
theorem rowB_free {W : World} {R : Nat} {c1 c2 : Nat × Nat × Nat} {m : Bool} (h : RowB W R c1 c2 m) : W.frozen? ⟨R, 0, none⟩ = false ∧ W.frozen? ⟨R, 1, none⟩ = false ∧ W.frozen? ⟨R, 2, none⟩ = false ∧ W.frozen? ⟨R, 3, none⟩ = false ∧ W.frozen? ⟨R, 4, none⟩ = false ∧ W.frozen? ⟨R, 5, none⟩ = false ∧ W.frozen? ⟨R, 6, none⟩ = false :=
  ⟨frozen_of_row _ _ 0 _ _ h, frozen_of_row _ _ 1 _ _ h, frozen_of_row _ _ 2 _ _ h, frozen_of_row _ _ 3 _ _ h, frozen_of_row _ _ 4 _ _ h, frozen_of_row _ _ 5 _ _ h, frozen_of_row _ _ 6 _ _ h⟩
theorem RowB.first {W : World} {R : Nat} {c1 c2 : Nat × Nat × Nat} {m : Bool} (h : RowB W R c1 c2 m) (c : Nat × Nat × Nat) : RowB (((W.setCell ⟨R, 0, none⟩ (.int .i64 (c.1 : Int))).setCell ⟨R, 1, none⟩ (.int .i64 (c.2.1 : Int))).setCell ⟨R, 2, none⟩ (.int .u32 (c.2.2 : Int))) R c c2 m :=
  heap_setCell_same _ R 2 _ _ _ (heap_setCell_same _ R 1 _ _ _ (heap_setCell_same W R 0 _ _ _ h))
theorem RowB.second {W : World} {R : Nat} {c1 c2 : Nat × Nat × Nat} {m : Bool} (h : RowB W R c1 c2 m) (c : Nat × Nat × Nat) : RowB (((W.setCell ⟨R, 3, none⟩ (.int .i64 (c.1 : Int))).setCell ⟨R, 4, none⟩ (.int .i64 (c.2.1 : Int))).setCell ⟨R, 5, none⟩ (.int .u32 (c.2.2 : Int))) R c1 c m :=
  heap_setCell_same _ R 5 _ _ _ (heap_setCell_same _ R 4 _ _ _ (heap_setCell_same W R 3 _ _ _ h))
theorem RowB.third {W : World} {R : Nat} {c1 c2 : Nat × Nat × Nat} {m : Bool} (h : RowB W R c1 c2 m) (b : Bool) : RowB (W.setCell ⟨R, 6, none⟩ (.bool b)) R c1 c2 b :=
  heap_setCell_same W R 6 _ _ _ h
theorem set3_mod (W : World) (R i j k : Nat) (a b c : Value) : Mod (oneB R) W (((W.setCell ⟨R, i, none⟩ a).setCell ⟨R, j, none⟩ b).setCell ⟨R, k, none⟩ c) :=
  (((Mod.refl (oneB R) W).set ⟨R, i, none⟩ a (.inl rfl)).set ⟨R, j, none⟩ b (.inl rfl)).set ⟨R, k, none⟩ c (.inl rfl)
theorem set1_mod (W : World) (R i : Nat) (a : Value) : Mod (oneB R) W (W.setCell ⟨R, i, none⟩ a) := (Mod.refl (oneB R) W).set ⟨R, i, none⟩ a (.inl rfl)
theorem cells3_new (W : World) (o : Obj) (a b c : Value) (T : TypeId) : Cells ((W.alloc o).alloc (.cells #[a, b, c] T)) (W.heap.size + 2) (some ⟨W.heap.size + 1, 0, none⟩) [a, b, c] := fun _ =>
  ⟨W.heap.size + 1, 0, rfl, by omega, fun j u hu => by
    have h := heap_alloc_new (W.alloc o) (.cells #[a, b, c] T)
    rw [World.size_alloc] at h
    rw [Nat.zero_add, cell_of_row _ (W.heap.size + 1) j _ _ _ h, ← Array.getElem?_toList]
    exact hu⟩
/-- What joined symbols come to is small. -/
theorem joinR_bd {n1 b1 : Int} {x1 : Nat} {n2 b2 : Int} {x2 : Nat} {m : Bool} {J : Option (Nat × Nat × Nat)} (h : joinR n1 b1 x1 n2 b2 x2 m = J) : ∀ y l d, J = some (y, l, d) → y < 256 ∧ l ≤ 258 ∧ d ≤ 32768 := by
  rintro y l d rfl
  unfold joinR at h
  split at h
  · split at h
    · rename_i hc
      cases h
      omega
    · cases h
  · split at h
    · rename_i hc
      cases h
      have h1 := valC_low (n := n1 - 257) (b := b1) (x := x1) (by omega)
      have h2 := vN_lt n2 b2 x2
      omega
    · cases h
set_option maxRecDepth 100000 in
set_option maxHeartbeats 4000000 in
theorem tktoks_any (F : List Int → List Bool → Int × Int × Nat) (hF : FunT F) (r base n0 ga gb : Nat) (S : Nat → Prop) (bs : List UInt8) (p : Nat) (most : Int) (z1 z2 : List Int) (w : World) (h1 : caR z1 = true) (h2 : caR z2 = true) (hzl1 : z1.length = 273) (hzl2 : z2.length = 30) (ha : LCa w n0 ga z1) (hb : LCa w n0 gb z2) (hr0 : r < n0) (hrd : RdS w r base S bs p) (hbl : bs.length ≤ 1000000) (m0 : -9223372036854775808 ≤ most) (m1 : most ≤ 9223372036854775807) :
    Calls Tryz.prog 90 #[.pointer (some ⟨r, 0, none⟩), .agg (alC (.pointer (some ⟨ga, 0, none⟩)) 257 (.pointer (some ⟨gb, 0, none⟩)) 0), .int .i64 most] w
      fun e w' => ∃ (A : Option Addr) (c p' : Nat) (t : Int × List Tk × Nat), blkL F z1 z2 (unpack bs) most ((unpack bs).length + 1 - p) [] 0 p = t ∧ e = .returned (.tuple #[.slice A t.2.1.length c, .int .i64 t.1]) ∧ w'.ownsRow (w.heap.size + 1) 71 3 (.slice A t.2.1.length c) t.2.1.length (t.2.1.flatMap tcC) ∧ RdS w' r base S bs p' ∧ (t.1 = 0 → p' = t.2.2) ∧ Mod (oneB r) w w' := by
  obtain ⟨hrl0, hp8, _⟩ := rd_low hrd
  obtain ⟨W1, hW1⟩ : ∃ W1, w.alloc (.cells (alC (.pointer (some ⟨ga, 0, none⟩)) 257 (.pointer (some ⟨gb, 0, none⟩)) 0) 150) = W1 := ⟨_, rfl⟩
  have hb1 : Below w.heap.size w W1 := by rw [← hW1]; exact (Below.refl _ w).alloc (Nat.le_refl _) _
  have HX1 : Hid (W1.heap[w.heap.size]? = some (.cells (alC (.pointer (some ⟨ga, 0, none⟩)) 257 (.pointer (some ⟨gb, 0, none⟩)) 0) 150 (0, 0))) := by show _ = _; rw [← hW1]; exact heap_alloc_new w _
  have HSL : Hid (∀ k, S k → k < w.heap.size) := hrd.lt
  have HRL : Hid (r < w.heap.size) := hrl0
  obtain ⟨L, hL⟩ : ∃ L, unpack bs = L := ⟨_, rfl⟩
  have hLl : L.length = 8 * bs.length := by rw [← hL, unpack_length]
  have HI1 : Hid (TsI w W1 r base S bs p ga gb (.slice none 0 0) []) := ⟨World.ownsRow_nil _ _ _ _, hrd.keep (Mod.of_below hb1) (fun _ _ h => h), (Mod.of_below hb1).mono (fun _ h => h.elim), HX1.out⟩
  have HCA : Hid (∀ W, Mod (oneB r) w W → LCa W n0 ga z1) := fun W hW => ha.keep2 hW (fun k hk => by have h2 : k = r := hk; omega)
  have HCB : Hid (∀ W, Mod (oneB r) w W → LCa W n0 gb z2) := fun W hW => hb.keep2 hW (fun k hk => by have h2 : k = r := hk; omega)
  have HTC : Hid (∀ (g zr : Nat) (zs : List Int) (W : World) (p' : Nat), caR zs = true → zr ≤ 1000 → LCa W n0 g zs → RdS W r base S bs p' → _) := fun g zr zs W p' hr hz hc hrd => tkclass_any F hF g r base zr zs S bs p' W hr hz hc.lc hrd hbl
  rw [hL] at HTC ⊢
  obtain ⟨T, hT⟩ : ∃ T, blkL F z1 z2 L most (L.length + 1 - p) [] 0 p = T := ⟨_, rfl⟩
  have HT := Lib.hid hT
  rw [hT]
  have HERR : Hid (∀ (e : Ending) (w' : World) (er : Int) (p' : Nat), T = (er, [], 0) → er ≠ 0 → e = .returned (.tuple #[.slice none 0 0, .int .i64 er]) → RdS w' r base S bs p' → Mod (oneB r) w w' → ∃ (A : Option Addr) (c p' : Nat) (t : Int × List Tk × Nat), T = t ∧ e = .returned (.tuple #[.slice A t.2.1.length c, .int .i64 t.1]) ∧ w'.ownsRow (w.heap.size + 1) 71 3 (.slice A t.2.1.length c) t.2.1.length (t.2.1.flatMap tcC) ∧ RdS w' r base S bs p' ∧ (t.1 = 0 → p' = t.2.2) ∧ Mod (oneB r) w w') := fun e w' er p' ht hne he hr hm => ⟨none, 0, p', _, ht, he, World.ownsRow_nil _ _ _ _, hr, fun h => absurd h hne, hm⟩
  have HR1 := Lib.hid h1
  have HR2 := Lib.hid h2
  have HLL := Lib.hid hLl
  have hp8L : p ≤ L.length := by omega
  clear ha hb hrd hb1 hL h1 h2 hT HX1
  unfold alC at hW1 ⊢
  go_enter Tryz.func90, Tryz.ntmps90
  go_wp2
  go_step3
  go_wp2
  go_step3
  go_wp2
  go_loopg [6, 7, 8] (L.length + 1 - p) (fun gk v s7 s8 wr => ∃ (ts : List Tk) (size p' : Nat), s7 = .int .i64 0 ∧ s8 = .int .i64 (size : Int) ∧ T = blkL F z1 z2 L most gk ts size p' ∧ L.length + 1 ≤ p' + gk ∧ p' ≤ L.length ∧ (size = 0 ∨ (size : Int) ≤ most) ∧ size ≤ 258 * p' ∧ ts.length ≤ p' ∧ (∃ A c, v = .slice A ts.length c) ∧ TsI w wr r base S bs p' ga gb v ts)
  case atStart => exact ⟨[], 0, p, rfl, rfl, HT.out.symm, by omega, by omega, .inl rfl, by omega, Nat.zero_le _, ⟨none, 0, rfl⟩, HI1.out⟩
  case round =>
    obtain ⟨ts, size, p', rfl, rfl, hte, hpg, hpl, hsm, hs258, hlp, ⟨Av, cv, rfl⟩, hti⟩ := hrel
    have HTE := Lib.hid hte
    have HTI := Lib.hid hti
    obtain ⟨j, rfl⟩ : ∃ j, gk = j + 1 := ⟨gk - 1, by omega⟩
    obtain ⟨ll, hll⟩ : ∃ ll, ts.length = ll := ⟨_, rfl⟩
    have HLN := Lib.hid hll
    rw [hll] at HTI hlp ⊢
    have hlmax : ll ≤ 8000000 := by have := HLL.out; omega
    obtain ⟨W0, hW0⟩ : ∃ W0, W0 = wr := ⟨_, rfl⟩
    subst hW0
    obtain ⟨R, hR⟩ : ∃ R, W0.heap.size = R := ⟨_, rfl⟩
    have hNR : w.heap.size < R := by rw [← hR]; exact (Array.getElem?_eq_some_iff.1 hti.box).1
    clear hte hti hll HI1
    have HRB0 : Hid (RowB ((W0.alloc (.cells #[.int .i64 0, .int .i64 0, .int .u32 0, .int .i64 0, .int .i64 0, .int .u32 0, .bool false] 75)).alloc (.cells #[.pointer (some ⟨R, 0, none⟩), .pointer (some ⟨R, 3, none⟩)] 191)) R (0, 0, 0) (0, 0, 0) false) := by
      show RowB _ _ _ _ _
      rw [← hR]
      exact row3_alloc (heap_alloc_new W0 _) _
    have HPB0 : Hid (PtrB ((W0.alloc (.cells #[.int .i64 0, .int .i64 0, .int .u32 0, .int .i64 0, .int .i64 0, .int .u32 0, .bool false] 75)).alloc (.cells #[.pointer (some ⟨R, 0, none⟩), .pointer (some ⟨R, 3, none⟩)] 191)) R) := by
      show PtrB _ _
      have h := heap_alloc_new (W0.alloc (.cells #[.int .i64 0, .int .i64 0, .int .u32 0, .int .i64 0, .int .i64 0, .int .u32 0, .bool false] 75)) (.cells #[.pointer (some ⟨R, 0, none⟩), .pointer (some ⟨R, 3, none⟩)] 191)
      rw [World.size_alloc, hR] at h
      exact h
    have HI0 := Lib.hid (HTI.out.below (((Below.refl W0.heap.size W0).alloc (Nat.le_refl _) (.cells #[.int .i64 0, .int .i64 0, .int .u32 0, .int .i64 0, .int .i64 0, .int .u32 0, .bool false] 75)).alloc (by simp) (.cells #[.pointer (some ⟨R, 0, none⟩), .pointer (some ⟨R, 3, none⟩)] 191)))
    have HAV : Hid (∀ g, W0.heap.size ≤ g → (Value.slice Av ll cv).ownBlock ≠ some g) := fun g hg e => by
      have := (HTI.out.row.lt g e).2
      omega
    have hs0 := HTI.out.mod.size
    go_wp2
    rw [hR] at HAV
    go_loopg [7, 10, 11, 19] 2 (fun gk s7 s10 s11 i W => s7 = .int .i64 0 ∧ ∃ (k pp : Nat) (c1 c2 : Nat × Nat × Nat) (m : Bool), k + gk = 2 ∧ i = .int .i64 (k : Int) ∧ TsI w W r base S bs pp ga gb (.slice Av ll cv) ts ∧ RowB W R c1 c2 m ∧ PtrB W R ∧ R + 1 < W.heap.size ∧
      ((k = 0 ∧ c1 = (0, 0, 0) ∧ c2 = (0, 0, 0) ∧ m = false ∧ pp = p') ∨
       (k = 1 ∧ c2 = (0, 0, 0) ∧ m = true ∧ 256 < c1.1 ∧ c1.1 < 273 ∧ c1.2.1 ≤ 13 ∧ c1.2.2 < 8192 ∧ ∃ on1, clsF F z1 257 L p' = (0, c1, on1) ∧ pp = p' + on1 ∧ 1 ≤ on1) ∨
       (k = 2 ∧ m = true ∧ 256 < c1.1 ∧ c1.1 < 273 ∧ c1.2.1 ≤ 13 ∧ c1.2.2 < 8192 ∧ c2.1 < 30 ∧ c2.2.1 ≤ 13 ∧ c2.2.2 < 8192 ∧ ∃ on1 on2, clsF F z1 257 L p' = (0, c1, on1) ∧ clsF F z2 0 L (p' + on1) = (0, c2, on2) ∧ pp = p' + on1 + on2 ∧ 1 ≤ on1)))
    case atStart => exact ⟨rfl, 0, p', _, _, _, rfl, rfl, HI0.out, HRB0.out, HPB0.out, by simp; omega, .inl ⟨rfl, rfl, rfl, rfl, rfl⟩⟩
    case round =>
      obtain ⟨rfl, k, pp, c1, c2, m, hkg, rfl, hti, hrb, hpb, hRs, hcase⟩ := hrel
      have HTI2 := Lib.hid hti
      have HRB := Lib.hid hrb
      have HPB := Lib.hid hpb
      have g0 : wr.cell? ⟨R + 1, 0, none⟩ = some (.pointer (some ⟨R, 0, none⟩)) := cell_of_row _ _ 0 _ _ _ hpb
      have g1 : wr.cell? ⟨R + 1, 1, none⟩ = some (.pointer (some ⟨R, 3, none⟩)) := cell_of_row _ _ 1 _ _ _ hpb
      obtain ⟨⟨x0, x1, x2, x3⟩, _⟩ := row4_facts hti.box
      clear hti hrb hpb HRB0 HPB0 HI0
      rcases hcase with ⟨rfl, rfl, rfl, rfl, rfl⟩ | ⟨rfl, rfl, rfl, h256, h273, hcb, hcx, on1, hc1, rfl, hon⟩ | ⟨rfl, rfl, h256, h273, hcb, hcx, h30, hdb, hdx, on1, on2, hc1, hc2, rfl, hon⟩
      · have hgk : gk = 2 := by omega
        have HCL := Lib.hid (HTC.out ga 257 z1 wr pp HR1.out (by omega) (HCA.out wr HTI2.out.mod) HTI2.out.rd)
        obtain ⟨C, hC⟩ : ∃ C, clsF F z1 257 L pp = C := ⟨_, rfl⟩
        rw [hC] at HCL
        obtain ⟨er, ⟨n, b, x⟩, on⟩ := C
        dsimp only at HCL
        by_cases her : er = 0
        · subst her
          by_cases h256 : n = 256
          · have HTQ : Hid (T = (0, ts, pp + on)) := by show _ = _; rw [HTE.out, blkL, hC]; dsimp only; rw [if_neg (by simp), if_pos h256]
            have v1 : ((n : Int) == 256) = true := by simp; omega
            clear hC h256
            go_wp2_with (go_at_call 122; refine HCL.out.mono ?_; rintro e w5 ⟨p5, rfl, hrd5, hpe5, hm5⟩; have HI5 := Lib.hid (HTI2.out.part HRL.out hm5 hrd5); have hrb5 : RowB w5 R _ _ _ := hm5.keep HRB.out (fun h => by have h2 : R = r := h; have := HRL.out; omega); have hpb5 : PtrB w5 R := hm5.keep HPB.out (fun h => by have h2 : R + 1 = r := h; have := HRL.out; omega); have HPB5 := Lib.hid hpb5; have hs5 := hm5.size; obtain ⟨rfl, hon1, hnz, hb13, hx81⟩ := hpe5 (by first | rfl | trivial); obtain ⟨q0, q1, q2, q3, q4, q5, q6⟩ := rowB_cells hrb5; obtain ⟨f0, f1, f2, f3, f4, f5, f6⟩ := rowB_free hrb5; obtain ⟨W6, hW6⟩ : ∃ W6, (((w5.setCell ⟨R, 0, none⟩ (.int .i64 (n : Int))).setCell ⟨R, 1, none⟩ (.int .i64 (b : Int))).setCell ⟨R, 2, none⟩ (.int .u32 (x : Int))) = W6 := ⟨_, rfl⟩; have hrb6 := hrb5.first (n, b, x); dsimp only at hrb6; rw [hW6] at hrb6; have hm6 : Mod (oneB R) w5 W6 := (by rw [← hW6]; exact set3_mod _ _ _ _ _ _ _ _); have HI6 := Lib.hid (HI5.out.other HSL.out (by omega) (HAV.out R (Nat.le_refl _)) hm6); have HRB6 := Lib.hid hrb6; have HPB6 := Lib.hid (show PtrB W6 R from hm6.keep HPB5.out (fun h => by have h2 : R + 1 = R := h; omega)); have hs6 := hm6.size; obtain ⟨s0, s1, s2, s3, s4, s5, s6⟩ := rowB_cells hrb6; obtain ⟨e0, e1, e2, e3, e4, e5, e6⟩ := rowB_free hrb6; clear hrd5 hpe5 hm5 hrb5 hpb5 hrb6 hm6)
            try rw [Exit.noGoto_ret]
            refine bodyPost_ret (results_tmp2 rfl _ _ _) rfl ?_
            refine ⟨Av, cv, _, _, HTQ.out, by rw [HLN.out]; rfl, ?_, HI6.out.rd, fun _ => rfl, HI6.out.mod⟩
            have h := HI6.out.row
            rw [HLN.out]
            rw [HLN.out] at h
            exact h
          · by_cases hm : 256 < n
            · have HCC := Lib.hid hC
              clear hC
              have v1 : ((n : Int) == 256) = false := by simp; omega
              have v2 : decide ((256 : Int) < (n : Int)) = true := decide_eq_true (by omega)
              have v2n : decide (256 < n) = true := decide_eq_true hm
              go_wp2_with (go_at_call 122; refine HCL.out.mono ?_; rintro e w5 ⟨p5, rfl, hrd5, hpe5, hm5⟩; have HI5 := Lib.hid (HTI2.out.part HRL.out hm5 hrd5); have hrb5 : RowB w5 R _ _ _ := hm5.keep HRB.out (fun h => by have h2 : R = r := h; have := HRL.out; omega); have hpb5 : PtrB w5 R := hm5.keep HPB.out (fun h => by have h2 : R + 1 = r := h; have := HRL.out; omega); have HPB5 := Lib.hid hpb5; have hs5 := hm5.size; obtain ⟨rfl, hon1, hnz, hb13, hx81⟩ := hpe5 (by first | rfl | trivial); obtain ⟨q0, q1, q2, q3, q4, q5, q6⟩ := rowB_cells hrb5; obtain ⟨f0, f1, f2, f3, f4, f5, f6⟩ := rowB_free hrb5; obtain ⟨W6, hW6⟩ : ∃ W6, (((w5.setCell ⟨R, 0, none⟩ (.int .i64 (n : Int))).setCell ⟨R, 1, none⟩ (.int .i64 (b : Int))).setCell ⟨R, 2, none⟩ (.int .u32 (x : Int))) = W6 := ⟨_, rfl⟩; have hrb6 := hrb5.first (n, b, x); dsimp only at hrb6; rw [hW6] at hrb6; have hm6 : Mod (oneB R) w5 W6 := (by rw [← hW6]; exact set3_mod _ _ _ _ _ _ _ _); have HI6 := Lib.hid (HI5.out.other HSL.out (by omega) (HAV.out R (Nat.le_refl _)) hm6); have HRB6 := Lib.hid hrb6; have HPB6 := Lib.hid (show PtrB W6 R from hm6.keep HPB5.out (fun h => by have h2 : R + 1 = R := h; omega)); have hs6 := hm6.size; obtain ⟨s0, s1, s2, s3, s4, s5, s6⟩ := rowB_cells hrb6; obtain ⟨e0, e1, e2, e3, e4, e5, e6⟩ := rowB_free hrb6; obtain ⟨W7, hW7⟩ : ∃ W7, W6.setCell ⟨R, 6, none⟩ (.bool true) = W7 := ⟨_, rfl⟩; have hrb7 := hrb6.third true; rw [hW7] at hrb7; have hm7 : Mod (oneB R) W6 W7 := (by rw [← hW7]; exact set1_mod _ _ _ _); have HI7 := Lib.hid (HI6.out.other HSL.out (by omega) (HAV.out R (Nat.le_refl _)) hm7); have HRB7 := Lib.hid hrb7; have HPB7 := Lib.hid (show PtrB W7 R from hm7.keep HPB6.out (fun h => by have h2 : R + 1 = R := h; omega)); have hs7 := hm7.size; obtain ⟨t0, t1, t2, t3, t4, t5, t6⟩ := rowB_cells hrb7; clear hrb7 hm7; clear hrd5 hpe5 hm5 hrb5 hpb5 hrb6 hm6)
              go_roundg 1
              case measure => omega
              case rel => exact ⟨rfl, 1, _, _, _, _, rfl, by go_num, HI7.out, HRB7.out, HPB7.out, by omega, .inr (.inl ⟨rfl, rfl, rfl, hm, by show n < 273; omega, hb13, hx81, on, HCC.out, rfl, hon1⟩)⟩
            · have HTQ : Hid (T = match (joinR (n : Int) (b : Int) x 0 0 0 false) with
                | none => (3, [], 0)
                | some (y, l, d) => if size < d then (3, [], 0) else if most - (size : Int) < (max l 1 : Nat) then (5, [], 0) else blkL F z1 z2 L most j (ts ++ [(UInt8.ofNat y, l, d)]) (size + max l 1) (pp + on)) := by
                show _ = _
                rw [HTE.out, blkL, hC]
                dsimp only
                rw [if_neg (by simp), if_neg h256, if_neg (by omega), if_neg hm, if_neg hm, Nat.add_zero]
                rfl
              clear hC
              have v1 : ((n : Int) == 256) = false := by simp; omega
              have v2 : decide ((256 : Int) < (n : Int)) = false := decide_eq_false (by omega)
              have v2n : decide (256 < n) = false := decide_eq_false hm
              go_upto_region 11 with (go_at_call 122; refine HCL.out.mono ?_; rintro e w5 ⟨p5, rfl, hrd5, hpe5, hm5⟩; have HI5 := Lib.hid (HTI2.out.part HRL.out hm5 hrd5); have hrb5 : RowB w5 R _ _ _ := hm5.keep HRB.out (fun h => by have h2 : R = r := h; have := HRL.out; omega); have hpb5 : PtrB w5 R := hm5.keep HPB.out (fun h => by have h2 : R + 1 = r := h; have := HRL.out; omega); have HPB5 := Lib.hid hpb5; have hs5 := hm5.size; obtain ⟨rfl, hon1, hnz, hb13, hx81⟩ := hpe5 (by first | rfl | trivial); obtain ⟨q0, q1, q2, q3, q4, q5, q6⟩ := rowB_cells hrb5; obtain ⟨f0, f1, f2, f3, f4, f5, f6⟩ := rowB_free hrb5; obtain ⟨W6, hW6⟩ : ∃ W6, (((w5.setCell ⟨R, 0, none⟩ (.int .i64 (n : Int))).setCell ⟨R, 1, none⟩ (.int .i64 (b : Int))).setCell ⟨R, 2, none⟩ (.int .u32 (x : Int))) = W6 := ⟨_, rfl⟩; have hrb6 := hrb5.first (n, b, x); dsimp only at hrb6; rw [hW6] at hrb6; have hm6 : Mod (oneB R) w5 W6 := (by rw [← hW6]; exact set3_mod _ _ _ _ _ _ _ _); have HI6 := Lib.hid (HI5.out.other HSL.out (by omega) (HAV.out R (Nat.le_refl _)) hm6); have HRB6 := Lib.hid hrb6; have HPB6 := Lib.hid (show PtrB W6 R from hm6.keep HPB5.out (fun h => by have h2 : R + 1 = R := h; omega)); have hs6 := hm6.size; obtain ⟨s0, s1, s2, s3, s4, s5, s6⟩ := rowB_cells hrb6; obtain ⟨e0, e1, e2, e3, e4, e5, e6⟩ := rowB_free hrb6; obtain ⟨W7, hW7⟩ : ∃ W7, W6.setCell ⟨R, 6, none⟩ (.bool false) = W7 := ⟨_, rfl⟩; have hrb7 := hrb6.third false; rw [hW7] at hrb7; have hm7 : Mod (oneB R) W6 W7 := (by rw [← hW7]; exact set1_mod _ _ _ _); have HI7 := Lib.hid (HI6.out.other HSL.out (by omega) (HAV.out R (Nat.le_refl _)) hm7); have HRB7 := Lib.hid hrb7; have HPB7 := Lib.hid (show PtrB W7 R from hm7.keep HPB6.out (fun h => by have h2 : R + 1 = R := h; omega)); have hs7 := hm7.size; obtain ⟨t0, t1, t2, t3, t4, t5, t6⟩ := rowB_cells hrb7; clear hrb7 hm7; clear hrd5 hpe5 hm5 hrb5 hpb5 hrb6 hm6)
              have hpl2 := (rd_low HI7.out.rd).2.1
              have hLL := HLL.out
              obtain ⟨r0, r1, r2, r3, r4, r5, r6⟩ := rowB_cells HRB7.out
              dsimp only at r0 r1 r2 r3 r4 r5 r6
              have HJ := Lib.hid (fun W => join_all (n1 := (n : Int)) (b1 := (b : Int)) (x1 := x) (n2 := 0) (b2 := 0) (x2 := 0) false W (by omega) (by omega) (by omega) (by omega))
              obtain ⟨J, hJ⟩ : ∃ J, joinR (n : Int) (b : Int) x 0 0 0 false = J := ⟨_, rfl⟩
              rw [hJ] at HJ HTQ
              have HJB := Lib.hid (joinR_bd hJ)
              unfold agR at HJ
              clear hJ
              cases J with
              | none =>
                unfold joinV agT at HJ
                go_wp2_with (go_at_call 123; refine (HJ.out _).mono ?_; rintro e w8 ⟨rfl, hb8⟩; have HI8 := Lib.hid (HI7.out.below hb8); have HI9 := Lib.hid (HI8.out.below ((Below.refl w8.heap.size w8).alloc (Nat.le_refl _) (.cells #[.int .u8 0, .int .i64 0, .int .i64 0] 71))); clear hb8)
                try rw [Exit.noGoto_ret]
                refine bodyPost_ret (results_tmp2 rfl _ _ _) rfl ?_
                exact HERR.out _ _ 3 _ HTQ.out (by first | decide | assumption) (by rfl) HI9.out.rd HI9.out.mod
              | some q =>
                obtain ⟨y, l, d⟩ := q
                unfold joinV agT at HJ
                dsimp only at HTQ
                obtain ⟨hy256, hl258, hd⟩ := HJB.out y l d rfl
                have HYY : Hid ((UInt8.ofNat y).toNat = y) := by show _ = _; simp; omega
                have hmax : max (l : Int) 1 = ((max l 1 : Nat) : Int) := by omega
                obtain ⟨sz, hsz⟩ : ∃ sz, max l 1 = sz := ⟨_, rfl⟩
                rw [hsz] at HTQ hmax
                have hsz1 : 1 ≤ sz ∧ sz ≤ 258 := by omega
                have hsub : IntKind.i64.wrap (most - (size : Int)) = most - (size : Int) := IntWalk.i64_in _ (by omega)
                clear hsz
                by_cases hdd : size < d
                · rw [if_pos hdd] at HTQ
                  have u1 : decide ((size : Int) < (d : Int)) = true := decide_eq_true (by omega)
                  have u1n : decide (size < d) = true := decide_eq_true hdd
                  clear hdd hmax hsub
                  go_wp2_with (go_at_call 123; refine (HJ.out _).mono ?_; rintro e w8 ⟨rfl, hb8⟩; have HI8 := Lib.hid (HI7.out.below hb8); have HI9 := Lib.hid (HI8.out.below ((Below.refl w8.heap.size w8).alloc (Nat.le_refl _) (.cells #[.int .u8 (y : Int), .int .i64 (l : Int), .int .i64 (d : Int)] 71))); clear hb8)
                  try rw [Exit.noGoto_ret]
                  refine bodyPost_ret (results_tmp2 rfl _ _ _) rfl ?_
                  exact HERR.out _ _ 3 _ HTQ.out (by first | decide | assumption) (by rfl) HI9.out.rd HI9.out.mod
                · rw [if_neg hdd] at HTQ
                  have u1 : decide ((size : Int) < (d : Int)) = false := decide_eq_false (by omega)
                  have u1n : decide (size < d) = false := decide_eq_false hdd
                  by_cases hbig : most - (size : Int) < (sz : Int)
                  · rw [if_pos hbig] at HTQ
                    have u2 : decide (most - (size : Int) < (sz : Int)) = true := decide_eq_true hbig
                    clear hdd hbig
                    go_wp2_with (go_at_call 123; refine (HJ.out _).mono ?_; rintro e w8 ⟨rfl, hb8⟩; have HI8 := Lib.hid (HI7.out.below hb8); have HI9 := Lib.hid (HI8.out.below ((Below.refl w8.heap.size w8).alloc (Nat.le_refl _) (.cells #[.int .u8 (y : Int), .int .i64 (l : Int), .int .i64 (d : Int)] 71))); clear hb8)
                    try rw [Exit.noGoto_ret]
                    refine bodyPost_ret (results_tmp2 rfl _ _ _) rfl ?_
                    exact HERR.out _ _ 5 _ HTQ.out (by first | decide | assumption) (by rfl) HI9.out.rd HI9.out.mod
                  · rw [if_neg hbig] at HTQ
                    have u2 : decide (most - (size : Int) < (sz : Int)) = false := decide_eq_false hbig
                    have hsm2 : ((size + sz : Nat) : Int) ≤ most := by omega
                    have HFM : Hid ((ts ++ [(UInt8.ofNat y, l, d)]).flatMap tcC = ts.flatMap tcC ++ [.int .u8 (y : Int), .int .i64 (l : Int), .int .i64 (d : Int)]) := by show _ = _; rw [List.flatMap_append]; simp only [List.flatMap_cons, List.flatMap_nil, List.append_nil, tcC, HYY.out]
                    have HFL : Hid ((ts ++ [(UInt8.ofNat y, l, d)]).length = ll + 1) := by show _ = _; rw [List.length_append, HLN.out]; rfl
                    clear hdd hbig
                    go_wp2_with (first
                      | (go_at_call 123; refine (HJ.out _).mono ?_; rintro e w8 ⟨rfl, hb8⟩; have HI8 := Lib.hid (HI7.out.below hb8); have HI9 := Lib.hid (HI8.out.below ((Below.refl w8.heap.size w8).alloc (Nat.le_refl _) (.cells #[.int .u8 (y : Int), .int .i64 (l : Int), .int .i64 (d : Int)] 71))); clear hb8)
                      | (at_builtin; refine wpList_app ((w8.alloc (.cells #[.int .u8 (y : Int), .int .i64 (l : Int), .int .i64 (d : Int)] 71)).alloc (.cells #[.int .u8 (y : Int), .int .i64 (l : Int), .int .i64 (d : Int)] 71)) tcElem rfl (.tmp 75) (.tmp 77) rfl (w.heap.size + 1) (.slice Av ll cv) ll (ts.flatMap tcC) rfl (by have h := HI9.out.row; rw [HLN.out] at h; exact h.alloc _) (w8.heap.size + 2) (some ⟨w8.heap.size + 1, 0, none⟩) 1 1 [.int .u8 (y : Int), .int .i64 (l : Int), .int .i64 (d : Int)] rfl rfl (cells3_new w8 _ _ _ _ _) (by simp [Value.oneCell']) (by unfold maxLen; omega) (by omega) (by have := HI8.out.mod.size; have := (Array.getElem?_eq_some_iff.1 HI8.out.box).1; simp; omega) ?_; intro A7 c7 w9 hA; have HA7 := Lib.hid hA; clear hA))
                    have HI10 := Lib.hid ((HI9.out.below ((Below.refl _ _).alloc (Nat.le_refl _) _)).app (ts' := ts ++ [(UInt8.ofNat y, l, d)]) HSL.out HA7.out HFL.out.symm HFM.out.symm)
                    go_roundg j
                    case measure => omega
                    case rel => exact ⟨ts ++ [(UInt8.ofNat y, l, d)], size + sz, pp + on, rfl, by go_num, HTQ.out, by omega, by omega, .inr hsm2, by omega, by rw [HFL.out]; omega, ⟨A7, c7, by rw [HFL.out]⟩, HI10.out⟩
        · have HTQ : Hid (T = (er, [], 0)) := by show _ = _; rw [HTE.out, blkL, hC]; dsimp only; rw [if_pos her]
          have v1 : (er != 0) = true := by simpa using her
          clear hC
          go_wp2_with (go_at_call 122; refine HCL.out.mono ?_; rintro e w5 ⟨p5, rfl, hrd5, hpe5, hm5⟩; have HI5 := Lib.hid (HTI2.out.part HRL.out hm5 hrd5); have hrb5 : RowB w5 R _ _ _ := hm5.keep HRB.out (fun h => by have h2 : R = r := h; have := HRL.out; omega); have hpb5 : PtrB w5 R := hm5.keep HPB.out (fun h => by have h2 : R + 1 = r := h; have := HRL.out; omega); have HPB5 := Lib.hid hpb5; have hs5 := hm5.size; obtain ⟨q0, q1, q2, q3, q4, q5, q6⟩ := rowB_cells hrb5; obtain ⟨f0, f1, f2, f3, f4, f5, f6⟩ := rowB_free hrb5; obtain ⟨W6, hW6⟩ : ∃ W6, (((w5.setCell ⟨R, 0, none⟩ (.int .i64 (n : Int))).setCell ⟨R, 1, none⟩ (.int .i64 (b : Int))).setCell ⟨R, 2, none⟩ (.int .u32 (x : Int))) = W6 := ⟨_, rfl⟩; have hrb6 := hrb5.first (n, b, x); dsimp only at hrb6; rw [hW6] at hrb6; have hm6 : Mod (oneB R) w5 W6 := (by rw [← hW6]; exact set3_mod _ _ _ _ _ _ _ _); have HI6 := Lib.hid (HI5.out.other HSL.out (by omega) (HAV.out R (Nat.le_refl _)) hm6); have HRB6 := Lib.hid hrb6; have HPB6 := Lib.hid (show PtrB W6 R from hm6.keep HPB5.out (fun h => by have h2 : R + 1 = R := h; omega)); have hs6 := hm6.size; obtain ⟨s0, s1, s2, s3, s4, s5, s6⟩ := rowB_cells hrb6; obtain ⟨e0, e1, e2, e3, e4, e5, e6⟩ := rowB_free hrb6; clear hrd5 hpe5 hm5 hrb5 hpb5 hrb6 hm6)
          try rw [Exit.noGoto_ret]
          refine bodyPost_ret (results_tmp2 rfl _ _ _) rfl ?_
          exact HERR.out _ _ er _ HTQ.out (by first | decide | assumption) (by rfl) HI6.out.rd HI6.out.mod
      · have hgk : gk = 1 := by omega
        have HCL := Lib.hid (HTC.out gb 0 z2 wr (p' + on1) HR2.out (by omega) (HCB.out wr HTI2.out.mod) HTI2.out.rd)
        obtain ⟨C, hC⟩ : ∃ C, clsF F z2 0 L (p' + on1) = C := ⟨_, rfl⟩
        rw [hC] at HCL
        obtain ⟨er, ⟨n, b, x⟩, on⟩ := C
        dsimp only at HCL
        by_cases her : er = 0
        · subst her
          have HCC := Lib.hid hC
          have HC1 := Lib.hid hc1
          clear hC hc1
          have v1 : ((c1.1 : Int) == 256) = false := by simp; omega
          have v2 : decide ((256 : Int) < (c1.1 : Int)) = true := decide_eq_true (by omega)
          have v2n : decide (256 < c1.1) = true := decide_eq_true h256
          go_wp2_with (go_at_call 122; refine HCL.out.mono ?_; rintro e w5 ⟨p5, rfl, hrd5, hpe5, hm5⟩; have HI5 := Lib.hid (HTI2.out.part HRL.out hm5 hrd5); have hrb5 : RowB w5 R _ _ _ := hm5.keep HRB.out (fun h => by have h2 : R = r := h; have := HRL.out; omega); have hpb5 : PtrB w5 R := hm5.keep HPB.out (fun h => by have h2 : R + 1 = r := h; have := HRL.out; omega); have HPB5 := Lib.hid hpb5; have hs5 := hm5.size; obtain ⟨rfl, hon1, hnz, hb13, hx81⟩ := hpe5 (by first | rfl | trivial); obtain ⟨q0, q1, q2, q3, q4, q5, q6⟩ := rowB_cells hrb5; obtain ⟨f0, f1, f2, f3, f4, f5, f6⟩ := rowB_free hrb5; obtain ⟨W6, hW6⟩ : ∃ W6, (((w5.setCell ⟨R, 3, none⟩ (.int .i64 (n : Int))).setCell ⟨R, 4, none⟩ (.int .i64 (b : Int))).setCell ⟨R, 5, none⟩ (.int .u32 (x : Int))) = W6 := ⟨_, rfl⟩; have hrb6 := hrb5.second (n, b, x); dsimp only at hrb6; rw [hW6] at hrb6; have hm6 : Mod (oneB R) w5 W6 := (by rw [← hW6]; exact set3_mod _ _ _ _ _ _ _ _); have HI6 := Lib.hid (HI5.out.other HSL.out (by omega) (HAV.out R (Nat.le_refl _)) hm6); have HRB6 := Lib.hid hrb6; have HPB6 := Lib.hid (show PtrB W6 R from hm6.keep HPB5.out (fun h => by have h2 : R + 1 = R := h; omega)); have hs6 := hm6.size; obtain ⟨s0, s1, s2, s3, s4, s5, s6⟩ := rowB_cells hrb6; obtain ⟨e0, e1, e2, e3, e4, e5, e6⟩ := rowB_free hrb6; obtain ⟨W7, hW7⟩ : ∃ W7, W6.setCell ⟨R, 6, none⟩ (.bool true) = W7 := ⟨_, rfl⟩; have hrb7 := hrb6.third true; rw [hW7] at hrb7; have hm7 : Mod (oneB R) W6 W7 := (by rw [← hW7]; exact set1_mod _ _ _ _); have HI7 := Lib.hid (HI6.out.other HSL.out (by omega) (HAV.out R (Nat.le_refl _)) hm7); have HRB7 := Lib.hid hrb7; have HPB7 := Lib.hid (show PtrB W7 R from hm7.keep HPB6.out (fun h => by have h2 : R + 1 = R := h; omega)); have hs7 := hm7.size; obtain ⟨t0, t1, t2, t3, t4, t5, t6⟩ := rowB_cells hrb7; clear hrb7 hm7; clear hrd5 hpe5 hm5 hrb5 hpb5 hrb6 hm6)
          go_roundg 0
          case measure => omega
          case rel => exact ⟨rfl, 2, _, _, _, _, rfl, by go_num, HI7.out, HRB7.out, HPB7.out, by omega, .inr (.inr ⟨rfl, rfl, h256, h273, hcb, hcx, by show n < 30; omega, hb13, hx81, on1, on, HC1.out, HCC.out, rfl, hon⟩)⟩
        · have HTQ : Hid (T = (er, [], 0)) := by show _ = _; rw [HTE.out, blkL, hc1]; dsimp only; rw [if_neg (by simp), if_neg (by omega), hC]; dsimp only; rw [if_pos ⟨h256, her⟩]
          have v1 : (er != 0) = true := by simpa using her
          clear hC hc1
          go_wp2_with (go_at_call 122; refine HCL.out.mono ?_; rintro e w5 ⟨p5, rfl, hrd5, hpe5, hm5⟩; have HI5 := Lib.hid (HTI2.out.part HRL.out hm5 hrd5); have hrb5 : RowB w5 R _ _ _ := hm5.keep HRB.out (fun h => by have h2 : R = r := h; have := HRL.out; omega); have hpb5 : PtrB w5 R := hm5.keep HPB.out (fun h => by have h2 : R + 1 = r := h; have := HRL.out; omega); have HPB5 := Lib.hid hpb5; have hs5 := hm5.size; obtain ⟨q0, q1, q2, q3, q4, q5, q6⟩ := rowB_cells hrb5; obtain ⟨f0, f1, f2, f3, f4, f5, f6⟩ := rowB_free hrb5; obtain ⟨W6, hW6⟩ : ∃ W6, (((w5.setCell ⟨R, 3, none⟩ (.int .i64 (n : Int))).setCell ⟨R, 4, none⟩ (.int .i64 (b : Int))).setCell ⟨R, 5, none⟩ (.int .u32 (x : Int))) = W6 := ⟨_, rfl⟩; have hrb6 := hrb5.second (n, b, x); dsimp only at hrb6; rw [hW6] at hrb6; have hm6 : Mod (oneB R) w5 W6 := (by rw [← hW6]; exact set3_mod _ _ _ _ _ _ _ _); have HI6 := Lib.hid (HI5.out.other HSL.out (by omega) (HAV.out R (Nat.le_refl _)) hm6); have HRB6 := Lib.hid hrb6; have HPB6 := Lib.hid (show PtrB W6 R from hm6.keep HPB5.out (fun h => by have h2 : R + 1 = R := h; omega)); have hs6 := hm6.size; obtain ⟨s0, s1, s2, s3, s4, s5, s6⟩ := rowB_cells hrb6; obtain ⟨e0, e1, e2, e3, e4, e5, e6⟩ := rowB_free hrb6; clear hrd5 hpe5 hm5 hrb5 hpb5 hrb6 hm6)
          try rw [Exit.noGoto_ret]
          refine bodyPost_ret (results_tmp2 rfl _ _ _) rfl ?_
          exact HERR.out _ _ er _ HTQ.out (by first | decide | assumption) (by rfl) HI6.out.rd HI6.out.mod
      · have hgk : gk = 0 := by omega
        obtain ⟨n1, b1, x1⟩ := c1
        obtain ⟨n2, b2, x2⟩ := c2
        dsimp only at h256 h273 hcb hcx h30 hdb hdx
        have HTQ : Hid (T = match (joinR (n1 : Int) (b1 : Int) x1 (n2 : Int) (b2 : Int) x2 true) with
          | none => (3, [], 0)
          | some (y, l, d) => if size < d then (3, [], 0) else if most - (size : Int) < (max l 1 : Nat) then (5, [], 0) else blkL F z1 z2 L most j (ts ++ [(UInt8.ofNat y, l, d)]) (size + max l 1) (p' + on1 + on2)) := by
          show _ = _
          rw [HTE.out, blkL, hc1]
          dsimp only
          rw [if_neg (by simp), if_neg (by omega), hc2]
          dsimp only
          rw [if_neg (by simp), if_pos h256, if_pos h256]
          rfl
        clear hc1 hc2
        have hpl2 := (rd_low HTI2.out.rd).2.1
        have hLL := HLL.out
        obtain ⟨r0, r1, r2, r3, r4, r5, r6⟩ := rowB_cells HRB.out
        dsimp only at r0 r1 r2 r3 r4 r5 r6
        have HJ := Lib.hid (fun W => join_all (n1 := (n1 : Int)) (b1 := (b1 : Int)) (x1 := x1) (n2 := (n2 : Int)) (b2 := (b2 : Int)) (x2 := x2) true W (by omega) (by omega) (by omega) (by omega))
        obtain ⟨J, hJ⟩ : ∃ J, joinR (n1 : Int) (b1 : Int) x1 (n2 : Int) (b2 : Int) x2 true = J := ⟨_, rfl⟩
        rw [hJ] at HJ HTQ
        have HJB := Lib.hid (joinR_bd hJ)
        unfold agR at HJ
        clear hJ
        cases J with
        | none =>
          unfold joinV agT at HJ
          go_wp2_with (go_at_call 123; refine (HJ.out _).mono ?_; rintro e w8 ⟨rfl, hb8⟩; have HI8 := Lib.hid (HTI2.out.below hb8); have HI9 := Lib.hid (HI8.out.below ((Below.refl w8.heap.size w8).alloc (Nat.le_refl _) (.cells #[.int .u8 0, .int .i64 0, .int .i64 0] 71))); clear hb8)
          try rw [Exit.noGoto_ret]
          refine bodyPost_ret (results_tmp2 rfl _ _ _) rfl ?_
          exact HERR.out _ _ 3 _ HTQ.out (by first | decide | assumption) (by rfl) HI9.out.rd HI9.out.mod
        | some q =>
          obtain ⟨y, l, d⟩ := q
          unfold joinV agT at HJ
          dsimp only at HTQ
          obtain ⟨hy256, hl258, hd⟩ := HJB.out y l d rfl
          have HYY : Hid ((UInt8.ofNat y).toNat = y) := by show _ = _; simp; omega
          have hmax : max (l : Int) 1 = ((max l 1 : Nat) : Int) := by omega
          obtain ⟨sz, hsz⟩ : ∃ sz, max l 1 = sz := ⟨_, rfl⟩
          rw [hsz] at HTQ hmax
          have hsz1 : 1 ≤ sz ∧ sz ≤ 258 := by omega
          have hsub : IntKind.i64.wrap (most - (size : Int)) = most - (size : Int) := IntWalk.i64_in _ (by omega)
          clear hsz
          by_cases hdd : size < d
          · rw [if_pos hdd] at HTQ
            have u1 : decide ((size : Int) < (d : Int)) = true := decide_eq_true (by omega)
            have u1n : decide (size < d) = true := decide_eq_true hdd
            clear hdd hmax hsub
            go_wp2_with (go_at_call 123; refine (HJ.out _).mono ?_; rintro e w8 ⟨rfl, hb8⟩; have HI8 := Lib.hid (HTI2.out.below hb8); have HI9 := Lib.hid (HI8.out.below ((Below.refl w8.heap.size w8).alloc (Nat.le_refl _) (.cells #[.int .u8 (y : Int), .int .i64 (l : Int), .int .i64 (d : Int)] 71))); clear hb8)
            try rw [Exit.noGoto_ret]
            refine bodyPost_ret (results_tmp2 rfl _ _ _) rfl ?_
            exact HERR.out _ _ 3 _ HTQ.out (by first | decide | assumption) (by rfl) HI9.out.rd HI9.out.mod
          · rw [if_neg hdd] at HTQ
            have u1 : decide ((size : Int) < (d : Int)) = false := decide_eq_false (by omega)
            have u1n : decide (size < d) = false := decide_eq_false hdd
            by_cases hbig : most - (size : Int) < (sz : Int)
            · rw [if_pos hbig] at HTQ
              have u2 : decide (most - (size : Int) < (sz : Int)) = true := decide_eq_true hbig
              clear hdd hbig
              go_wp2_with (go_at_call 123; refine (HJ.out _).mono ?_; rintro e w8 ⟨rfl, hb8⟩; have HI8 := Lib.hid (HTI2.out.below hb8); have HI9 := Lib.hid (HI8.out.below ((Below.refl w8.heap.size w8).alloc (Nat.le_refl _) (.cells #[.int .u8 (y : Int), .int .i64 (l : Int), .int .i64 (d : Int)] 71))); clear hb8)
              try rw [Exit.noGoto_ret]
              refine bodyPost_ret (results_tmp2 rfl _ _ _) rfl ?_
              exact HERR.out _ _ 5 _ HTQ.out (by first | decide | assumption) (by rfl) HI9.out.rd HI9.out.mod
            · rw [if_neg hbig] at HTQ
              have u2 : decide (most - (size : Int) < (sz : Int)) = false := decide_eq_false hbig
              have hsm2 : ((size + sz : Nat) : Int) ≤ most := by omega
              have HFM : Hid ((ts ++ [(UInt8.ofNat y, l, d)]).flatMap tcC = ts.flatMap tcC ++ [.int .u8 (y : Int), .int .i64 (l : Int), .int .i64 (d : Int)]) := by show _ = _; rw [List.flatMap_append]; simp only [List.flatMap_cons, List.flatMap_nil, List.append_nil, tcC, HYY.out]
              have HFL : Hid ((ts ++ [(UInt8.ofNat y, l, d)]).length = ll + 1) := by show _ = _; rw [List.length_append, HLN.out]; rfl
              clear hdd hbig
              go_wp2_with (first
                | (go_at_call 123; refine (HJ.out _).mono ?_; rintro e w8 ⟨rfl, hb8⟩; have HI8 := Lib.hid (HTI2.out.below hb8); have HI9 := Lib.hid (HI8.out.below ((Below.refl w8.heap.size w8).alloc (Nat.le_refl _) (.cells #[.int .u8 (y : Int), .int .i64 (l : Int), .int .i64 (d : Int)] 71))); clear hb8)
                | (at_builtin; refine wpList_app ((w8.alloc (.cells #[.int .u8 (y : Int), .int .i64 (l : Int), .int .i64 (d : Int)] 71)).alloc (.cells #[.int .u8 (y : Int), .int .i64 (l : Int), .int .i64 (d : Int)] 71)) tcElem rfl (.tmp 75) (.tmp 77) rfl (w.heap.size + 1) (.slice Av ll cv) ll (ts.flatMap tcC) rfl (by have h := HI9.out.row; rw [HLN.out] at h; exact h.alloc _) (w8.heap.size + 2) (some ⟨w8.heap.size + 1, 0, none⟩) 1 1 [.int .u8 (y : Int), .int .i64 (l : Int), .int .i64 (d : Int)] rfl rfl (cells3_new w8 _ _ _ _ _) (by simp [Value.oneCell']) (by unfold maxLen; omega) (by omega) (by have := HI8.out.mod.size; have := (Array.getElem?_eq_some_iff.1 HI8.out.box).1; simp; omega) ?_; intro A7 c7 w9 hA; have HA7 := Lib.hid hA; clear hA))
              have HI10 := Lib.hid ((HI9.out.below ((Below.refl _ _).alloc (Nat.le_refl _) _)).app (ts' := ts ++ [(UInt8.ofNat y, l, d)]) HSL.out HA7.out HFL.out.symm HFM.out.symm)
              go_roundg j
              case measure => omega
              case rel => exact ⟨ts ++ [(UInt8.ofNat y, l, d)], size + sz, p' + on1 + on2, rfl, by go_num, HTQ.out, by omega, by omega, .inr hsm2, by omega, by rw [HFL.out]; omega, ⟨A7, c7, by rw [HFL.out]⟩, HI10.out⟩
end Go.Proofs.YtkikgidmioofaaaGreat
/- Layer 13: the reference's Take. -/
namespace Go.Proofs.YtkikgidmioofaaaGreat
open Go.RowKit BitsP SymP
attribute [local go_sem ↓] Go.wp_at_zero Go.wp_at_succ

/-- How many bytes tokens are. -/
def szs (ts : List Tk) : Nat := (ts.map fun t => max t.2.1 1).sum
theorem szs_snoc (ts : List Tk) (t : Tk) : szs (ts ++ [t]) = szs ts + max t.2.1 1 := by simp [szs]
/-- What is being taken, in memory: the tokens, how many bytes they are, the place. -/
structure RTI (w3 W : World) (G : Nat) (v : Value) (size pp : Nat) (ts : List Tk) : Prop where
  box : W.heap[G]? = some (.cells #[v, .int .i64 (size : Int), .int .i64 (pp : Int), .int .i64 0] 52 (0, 0))
  row : W.ownsRow (G + 1) 71 3 v ts.length (ts.flatMap tcC)
  bel : Below G w3 W
theorem RTI.lt {w3 W : World} {G : Nat} {v : Value} {size pp : Nat} {ts : List Tk} (h : RTI w3 W G v size pp ts) : G < W.heap.size := (Array.getElem?_eq_some_iff.1 h.box).1
theorem RTI.below {w3 W W' : World} {G : Nat} {v : Value} {size pp : Nat} {ts : List Tk} (h : RTI w3 W G v size pp ts) (hb : Below W.heap.size W W') : RTI w3 W' G v size pp ts :=
  ⟨(hb.block _ h.lt).trans h.box, own_keep h.row (Mod.of_below hb) (fun _ _ h => h), h.bel.trans (hb.mono (Nat.le_of_lt h.lt))⟩
theorem rti_row {w : World} {G : Nat} {base : Nat} {e : TypeId} {size n : Nat} {v : Value} {xs : List Value} (h : w.ownsRow base e size v n xs) (hb : G < base) (i : Nat) (u : Value) : (w.setCell ⟨G, i, none⟩ u).ownsRow base e size v n xs :=
  own_keep h (set1_mod w G i u) (fun k hk h2 => by have h3 := own_base h k hk; have h4 : k = G := h2; omega)
theorem row3_set {W : World} {G : Nat} {a b c : Value} {t : TypeId} (h : W.heap[G]? = some (.cells #[a, b, c] t (0, 0))) (u v x : Value) : (((W.setCell ⟨G, 0, none⟩ u).setCell ⟨G, 1, none⟩ v).setCell ⟨G, 2, none⟩ x).heap[G]? = some (.cells #[u, v, x] t (0, 0)) :=
  heap_setCell_same _ G 2 _ _ _ (heap_setCell_same _ G 1 _ _ _ (heap_setCell_same W G 0 _ _ _ h))
theorem RTI.at_ {w3 W : World} {G : Nat} {v : Value} {size pp : Nat} {ts : List Tk} (h : RTI w3 W G v size pp ts) (q : Nat) : RTI w3 (W.setCell ⟨G, 2, none⟩ (.int .i64 (q : Int))) G v size q ts :=
  ⟨heap_setCell_same W G 2 _ _ _ h.box, rti_row h.row (Nat.lt_succ_self _) 2 _, h.bel.setCell (Nat.le_refl _) _⟩
theorem RTI.more {w3 W w10 : World} {G : Nat} {v v' : Value} {size pp m : Nat} {ts ts' : List Tk} {xs : List Value} (h : RTI w3 W G v size pp ts) (ha : App W (G + 1) 71 3 v m xs w10 v') (hm : m = ts'.length) (hx : xs = ts'.flatMap tcC) (z : Nat) :
    RTI w3 ((w10.setCell ⟨G, 0, none⟩ v').setCell ⟨G, 1, none⟩ (.int .i64 (z : Int))) G v' z pp ts' := by
  have hv : ∀ k, ownS v k → G + 1 ≤ k := fun k hk => own_base h.row k hk
  have hb := (Mod.of_app ha).keep h.box (fun hk => by have := hv _ hk; omega)
  refine ⟨heap_setCell_same _ G 1 _ _ _ (heap_setCell_same w10 G 0 _ _ _ hb), ?_, ?_⟩
  · have hr := ha.own
    rw [hm, hx] at hr
    exact rti_row (rti_row hr (Nat.lt_succ_self _) 0 _) (Nat.lt_succ_self _) 1 _
  · exact ((ha.below h.bel (Nat.le_of_lt h.lt) (fun k hk => by have := hv k hk; omega)).setCell (Nat.le_refl _) _).setCell (Nat.le_refl _) _
theorem rti_cells {w3 W : World} {G : Nat} {v : Value} {size pp : Nat} {ts : List Tk} (h : RTI w3 W G v size pp ts) : W.cell? ⟨G, 0, none⟩ = some v ∧ W.cell? ⟨G, 1, none⟩ = some (.int .i64 (size : Int)) ∧ W.cell? ⟨G, 2, none⟩ = some (.int .i64 (pp : Int)) ∧ W.cell? ⟨G, 3, none⟩ = some (.int .i64 0) ∧ W.frozen? ⟨G, 0, none⟩ = false ∧ W.frozen? ⟨G, 1, none⟩ = false ∧ W.frozen? ⟨G, 2, none⟩ = false :=
  ⟨cell_of_row _ _ 0 _ _ _ h.box, cell_of_row _ _ 1 _ _ _ h.box, cell_of_row _ _ 2 _ _ _ h.box, cell_of_row _ _ 3 _ _ _ h.box, frozen_of_row _ _ 0 _ _ h.box, frozen_of_row _ _ 1 _ _ h.box, frozen_of_row _ _ 2 _ _ h.box⟩
/-- The answer's block, still empty. -/
def ResB (W : World) (R : Nat) : Prop := W.heap[R]? = some (.cells #[.slice none 0 0, .int .i64 0, .int .i64 0, .int .i64 0] 52 (0, 0))
theorem res_cells {W : World} {R : Nat} (h : ResB W R) : W.cell? ⟨R, 0, none⟩ = some (.slice none 0 0) ∧ W.cell? ⟨R, 1, none⟩ = some (.int .i64 0) ∧ W.cell? ⟨R, 2, none⟩ = some (.int .i64 0) ∧ W.cell? ⟨R, 3, none⟩ = some (.int .i64 0) ∧ W.frozen? ⟨R, 0, none⟩ = false ∧ W.frozen? ⟨R, 1, none⟩ = false ∧ W.frozen? ⟨R, 2, none⟩ = false ∧ W.frozen? ⟨R, 3, none⟩ = false :=
  ⟨cell_of_row _ _ 0 _ _ _ h, cell_of_row _ _ 1 _ _ _ h, cell_of_row _ _ 2 _ _ _ h, cell_of_row _ _ 3 _ _ _ h, frozen_of_row _ _ 0 _ _ h, frozen_of_row _ _ 1 _ _ h, frozen_of_row _ _ 2 _ _ h, frozen_of_row _ _ 3 _ _ h⟩
/-- What Take answers. -/
def RtQ (w : World) (lr : Nat) (t : Int × List Tk × Nat) (e : Ending) (w' : World) : Prop :=
  ∃ (A : Option Addr) (c sz at_ : Nat), e = .returned (.agg #[.slice A t.2.1.length c, .int .i64 (sz : Int), .int .i64 (at_ : Int), .int .i64 t.1]) ∧ (t.1 = 0 → sz = szs t.2.1 ∧ at_ = t.2.2 ∧ at_ ≤ lr) ∧ w'.ownsRow w.heap.size 71 3 (.slice A t.2.1.length c) t.2.1.length (t.2.1.flatMap tcC) ∧ Below w.heap.size w w'
theorem set4_below {w W : World} {B R : Nat} (h : Below B w W) (hR : B ≤ R) (a b c d : Value) : Below B w ((((W.setCell ⟨R, 0, none⟩ a).setCell ⟨R, 1, none⟩ b).setCell ⟨R, 2, none⟩ c).setCell ⟨R, 3, none⟩ d) :=
  (((h.setCell hR _).setCell hR _).setCell hR _).setCell hR _
theorem RtQ.err {w W : World} {lr R : Nat} {t : Int × List Tk × Nat} {er : Int} (ht : t = (er, [], 0)) (h0 : er ≠ 0) (hR : w.heap.size = R) (hb : Below R w W) (a b c d : Value) :
    RtQ w lr t (.returned (.agg #[.slice none 0 0, .int .i64 0, .int .i64 0, .int .i64 er])) ((((W.setCell ⟨R, 0, none⟩ a).setCell ⟨R, 1, none⟩ b).setCell ⟨R, 2, none⟩ c).setCell ⟨R, 3, none⟩ d) := by
  subst ht
  subst hR
  exact ⟨none, 0, 0, 0, rfl, fun h => absurd h h0, World.ownsRow_nil _ _ _ _, set4_below hb (Nat.le_refl _) _ _ _ _⟩
theorem RTI.set3 {w3 W : World} {G S1 : Nat} {v : Value} {size pp : Nat} {ts : List Tk} (h : RTI w3 W G v size pp ts) (hk : G < S1) (hv : ∀ k, ownS v k → k ≠ S1) (a b c : Value) : RTI w3 (((W.setCell ⟨S1, 0, none⟩ a).setCell ⟨S1, 1, none⟩ b).setCell ⟨S1, 2, none⟩ c) G v size pp ts :=
  ⟨(set3_mod W S1 0 1 2 a b c).keep h.box (fun h2 => by have h3 : G = S1 := h2; omega), own_keep h.row (set3_mod W S1 0 1 2 a b c) (fun k hk2 h2 => hv k hk2 h2), ((h.bel.setCell (Nat.le_of_lt hk) _).setCell (Nat.le_of_lt hk) _).setCell (Nat.le_of_lt hk) _⟩
theorem cells3_one (W : World) (a b c : Value) (T : TypeId) : Cells (W.alloc (.cells #[a, b, c] T)) (W.heap.size + 1) (some ⟨W.heap.size, 0, none⟩) [a, b, c] := fun _ =>
  ⟨W.heap.size, 0, rfl, Nat.lt_succ_self _, fun j u hu => by rw [Nat.zero_add, cell_of_row _ _ j _ _ _ (heap_alloc_new W _), ← Array.getElem?_toList]; exact hu⟩
theorem set4_row {w : World} {R base : Nat} {e : TypeId} {size n : Nat} {v : Value} {xs : List Value} (h : w.ownsRow base e size v n xs) (hb : R < base) (a b c d : Value) : ((((w.setCell ⟨R, 0, none⟩ a).setCell ⟨R, 1, none⟩ b).setCell ⟨R, 2, none⟩ c).setCell ⟨R, 3, none⟩ d).ownsRow base e size v n xs :=
  rti_row (rti_row (rti_row (rti_row h hb 0 _) hb 1 _) hb 2 _) hb 3 _
set_option maxRecDepth 100000 in
set_option maxHeartbeats 8000000 in
theorem rtake13_any (F : List Int → List Bool → Int × Int × Nat) (hF : FunT F) (A : Option Addr) (lr c3 : Nat) (L : List Bool) (p : Nat) (most : Int) (w : World) (hL : L.length = lr) (hlr : lr ≤ 1000000) (hc : lr ≤ c3) (h3 : Bytes w w.heap.size A (bitBytes L)) (hp : p ≤ lr) (m0 : -9223372036854775808 ≤ most) (m1 : most ≤ 9223372036854775807) :
    Calls Tryz.prog 28 #[.slice A lr c3, .int .i64 (p : Int), .int .i64 most] w (RtQ w lr (blkF F L p most)) := by
  obtain ⟨T, hT⟩ : ∃ T, blkF F L p most = T := ⟨_, rfl⟩
  have HT := Lib.hid hT
  rw [hT]
  obtain ⟨R, hR⟩ : ∃ R, w.heap.size = R := ⟨_, rfl⟩
  obtain ⟨W1, hW1⟩ : ∃ W1, w.alloc (.cells #[.slice none 0 0, .int .i64 0, .int .i64 0, .int .i64 0] 52) = W1 := ⟨_, rfl⟩
  have hb1 : Below R w W1 := by rw [← hW1, ← hR]; exact (Below.refl _ w).alloc (Nat.le_refl _) _
  have HR1 : Hid (ResB W1 R) := by show ResB _ _; rw [← hW1, ← hR]; exact heap_alloc_new w _
  have hz1 : W1.heap.size = R + 1 := by rw [← hW1, ← hR]; simp
  have HZ1 := Lib.hid hz1
  have HB1 := Lib.hid hb1
  have HBY : Hid (∀ W, Below R w W → Bytes W W.heap.size A (bitBytes L)) := fun W hW => by
    have h := h3.below (B' := R) hW (by omega)
    exact h.more (by have := hW.size; omega)
  have HLL := Lib.hid hL
  have HRR := Lib.hid hR
  have HW1 := Lib.hid hW1
  have HRES : Hid (∀ W, Below (R + 1) W1 W → ResB W R) := fun W hW => (hW.block R (Nat.lt_succ_self _)).trans HR1.out
  clear h3 hL hT hW1 hR hb1 hz1
  go_enter Tryz.func28, Tryz.ntmps28
  go_upto_region 1 with fail
  rw [HW1.out, HRR.out]
  have HT1 := Lib.hid (rrtake_le F hF A lr c3 L p W1 HLL.out hlr hc (HBY.out W1 HB1.out) hp)
  obtain ⟨T1, hT1⟩ : ∃ T1, tkF F L p = T1 := ⟨_, rfl⟩
  rw [hT1] at HT1
  obtain ⟨er1, a, p1⟩ := T1
  dsimp only at HT1
  go_wp2_with fail
  refine HT1.out.mono ?_
  rintro e w2 ⟨A2, c2, rfl, hown2, hb2, hle2⟩
  have HBL2 : Hid (Below (R + 1) W1 w2) := hb2.mono (by rw [HZ1.out]; exact Nat.le_refl _)
  have HB2 : Hid (Below R w w2) := HB1.out.trans (HBL2.out.mono (Nat.le_succ _))
  have HO2 := Lib.hid hown2
  obtain ⟨r0, r1, r2, r3, f0, f1, f2, f3⟩ := res_cells (HRES.out w2 HBL2.out)
  by_cases her1 : er1 = 0
  rotate_left
  · have HTQ : Hid (T = (er1, [], 0)) := by show _ = _; rw [← HT.out, blkF, hT1]; dsimp only; rw [if_pos her1]
    have HNE := Lib.hid her1
    have v1 : (er1 != 0) = true := by simpa using her1
    clear hT1 her1 hown2 hb2 hle2 HT
    go_wp2
    refine bodyPost_ret (v := .agg #[.slice none 0 0, .int .i64 0, .int .i64 0, .int .i64 er1]) ?_ rfl (RtQ.err HTQ.out HNE.out HRR.out HB2.out _ _ _ _)
    rw [results_cell1 rfl]
    go_simp
    try rfl
  subst her1
  have hp1 := hle2 rfl
  have HT2 := Lib.hid (rrtake_le F hF A lr c3 L p1 w2 HLL.out hlr hc (HBY.out w2 HB2.out) hp1)
  obtain ⟨T2, hT2⟩ : ∃ T2, tkF F L p1 = T2 := ⟨_, rfl⟩
  rw [hT2] at HT2
  obtain ⟨er2, b, p2⟩ := T2
  dsimp only at HT2
  have HT1E := Lib.hid hT1
  have HT2E := Lib.hid hT2
  clear hown2 hb2 hle2 hT1 hT2
  go_wp2_with fail
  refine HT2.out.mono ?_
  rintro e w3 ⟨A3, c4, rfl, hown3, hb3, hle3⟩
  have HBL3 : Hid (Below (R + 1) W1 w3) := HBL2.out.trans (hb3.mono (by have := HBL2.out.size; have := HZ1.out; omega))
  have HB3 : Hid (Below R w w3) := HB1.out.trans (HBL3.out.mono (Nat.le_succ _))
  have HC3 : Hid (Cells w3 w3.heap.size A3 ((zN b).map ic)) := by have h := Cells.of_own hown3; rw [zN_cs] at h; exact h
  have HC2 : Hid (Cells w3 w3.heap.size A2 ((zN a).map ic)) := by have h := Cells.of_own (own_keep HO2.out (Mod.of_below hb3) (fun _ _ h => h)); rw [zN_cs] at h; exact h
  obtain ⟨r0, r1, r2, r3, f0, f1, f2, f3⟩ := res_cells (HRES.out w3 HBL3.out)
  by_cases her2 : er2 = 0
  rotate_left
  · have HTQ : Hid (T = (er2, [], 0)) := by show _ = _; rw [← HT.out, blkF, HT1E.out]; dsimp only; rw [if_neg (by simp), HT2E.out]; dsimp only; rw [if_pos her2]
    have HNE := Lib.hid her2
    have v1 : (er2 != 0) = true := by simpa using her2
    clear her2 hown3 hb3 hle3 HT
    go_wp2
    refine bodyPost_ret (v := .agg #[.slice none 0 0, .int .i64 0, .int .i64 0, .int .i64 er2]) ?_ rfl (RtQ.err HTQ.out HNE.out HRR.out HB3.out _ _ _ _)
    rw [results_cell1 rfl]
    go_simp
    try rfl
  subst her2
  have hp2 := hle3 rfl
  clear hown3 hb3 hle3
  have HT0 : Hid (T = if a.length ≠ 273 ∨ b.length ≠ 30 then (3, [], 0) else if caR (zN a) = false ∨ caR (zN b) = false then (13, [], 0) else blkL F (zN a) (zN b) L most (L.length + 1 - p2) [] 0 p2) := by
    show _ = _
    rw [← HT.out, blkF, HT1E.out]
    dsimp only
    rw [if_neg (by simp), HT2E.out]
    dsimp only
    rw [if_neg (by simp)]
    rfl
  obtain ⟨na, hna⟩ : ∃ na, a.length = na := ⟨_, rfl⟩
  obtain ⟨nb, hnb⟩ : ∃ nb, b.length = nb := ⟨_, rfl⟩
  have HZA : Hid ((zN a).length = na) := by show _ = _; rw [zN_len, hna]
  have HZB : Hid ((zN b).length = nb) := by show _ = _; rw [zN_len, hnb]
  rw [hna, hnb] at HT0
  rw [hna, hnb]
  obtain ⟨z1, hz1⟩ : ∃ z1, zN a = z1 := ⟨_, rfl⟩
  obtain ⟨z2, hz2⟩ : ∃ z2, zN b = z2 := ⟨_, rfl⟩
  rw [hz1, hz2] at HT0
  rw [hz1] at HZA HC2
  rw [hz2] at HZB HC3
  clear hna hnb hz1 hz2 HT HT1E HT2E
  by_cases h273 : na = 273
  rotate_left
  · have HTQ : Hid (T = (3, [], 0)) := by show _ = _; rw [HT0.out, if_pos (.inl h273)]
    have v1 : ((na : Int) != 273) = true := by simp; omega
    clear h273
    go_wp2
    refine bodyPost_ret (v := .agg #[.slice none 0 0, .int .i64 0, .int .i64 0, .int .i64 3]) ?_ rfl (RtQ.err HTQ.out (by decide) HRR.out HB3.out _ _ _ _)
    rw [results_cell1 rfl]
    go_simp
    try rfl
  subst h273
  by_cases h30 : nb = 30
  rotate_left
  · have HTQ : Hid (T = (3, [], 0)) := by show _ = _; rw [HT0.out, if_pos (.inr h30)]
    have v1 : ((nb : Int) != 30) = true := by simp; omega
    clear h30
    go_wp2
    refine bodyPost_ret (v := .agg #[.slice none 0 0, .int .i64 0, .int .i64 0, .int .i64 3]) ?_ rfl (RtQ.err HTQ.out (by decide) HRR.out HB3.out _ _ _ _)
    rw [results_cell1 rfl]
    go_simp
    try rfl
  subst h30
  have HRA := Lib.hid (ref8Right_any A2 273 c2 z1 w3.heap.size w3 HZA.out (by omega) HC2.out)
  have HRB := Lib.hid (ref8Right_any A3 30 c4 z2 w3.heap.size w3 HZB.out (by omega) HC3.out)
  cases hca : caR z1 with
  | false =>
    have HTQ : Hid (T = (13, [], 0)) := by show _ = _; rw [HT0.out, if_neg (by omega), if_pos (.inl hca)]
    rw [hca] at HRA
    clear hca
    go_wp2_with (go_at_call 59; refine HRA.out.mono ?_; rintro e w' ⟨rfl, rfl⟩)
    refine bodyPost_ret (v := .agg #[.slice none 0 0, .int .i64 0, .int .i64 0, .int .i64 13]) ?_ rfl (RtQ.err HTQ.out (by decide) HRR.out HB3.out _ _ _ _)
    rw [results_cell1 rfl]
    go_simp
    try rfl
  | true =>
  cases hcb : caR z2 with
  | false =>
    have HTQ : Hid (T = (13, [], 0)) := by show _ = _; rw [HT0.out, if_neg (by omega), if_pos (.inr hcb)]
    rw [hca] at HRA
    rw [hcb] at HRB
    clear hca hcb
    go_wp2_with (first
      | (go_at_call 59; refine HRA.out.mono ?_; clear HRA; rintro e w' ⟨rfl, rfl⟩)
      | (go_at_call 59; refine HRB.out.mono ?_; rintro e w' ⟨rfl, rfl⟩))
    refine bodyPost_ret (v := .agg #[.slice none 0 0, .int .i64 0, .int .i64 0, .int .i64 13]) ?_ rfl (RtQ.err HTQ.out (by decide) HRR.out HB3.out _ _ _ _)
    rw [results_cell1 rfl]
    go_simp
    try rfl
  | true =>
  have HTE : Hid (T = blkL F z1 z2 L most (lr + 1 - p2) [] 0 p2) := by show _ = _; rw [HT0.out, if_neg (by omega), if_neg (by rw [hca, hcb]; simp), HLL.out]
  have HCRA := Lib.hid hca
  have HCRB := Lib.hid hcb
  rw [hca] at HRA
  rw [hcb] at HRB
  have HVA := Lib.hid (ref8Values_any A2 273 c2 z1 w3.heap.size w3 HZA.out (by omega) HC2.out (Nat.le_refl _))
  have HVB : Hid (∀ W, Below w3.heap.size w3 W → _) := fun W hW => ref8Values_any A3 30 c4 z2 w3.heap.size W HZB.out (by omega) (HC3.out.below hW (Nat.le_refl _)) hW.size
  clear hca hcb HT0 HRES
  have HRES3 : Hid (ResB w3 R) := (HBL3.out.block R (Nat.lt_succ_self _)).trans HR1.out
  go_wp2_with (first
    | (go_at_call 59; refine HRA.out.mono ?_; clear HRA; rintro e w' ⟨rfl, rfl⟩)
    | (go_at_call 59; refine HRB.out.mono ?_; rintro e w' ⟨rfl, rfl⟩)
    | (go_at_call 46; refine HVA.out.mono ?_; clear HVA; rintro e w4 ⟨rfl, hi4, hb4⟩; have HI4 := Lib.hid hi4; have HB4 := Lib.hid hb4; clear hi4 hb4)
    | (go_at_call 46; refine (HVB.out w4 HB4.out).mono ?_; rintro e w5 ⟨rfl, hi5, hb5⟩; have HI5 := Lib.hid hi5; have HB5 := Lib.hid hb5; clear hi5 hb5))
  have hs3 : R < w3.heap.size := (Array.getElem?_eq_some_iff.1 HRES3.out).1
  have hs4 : w3.heap.size < w4.heap.size := ib_lt HI4.out
  have hs5 : w4.heap.size < w5.heap.size := ib_lt HI5.out
  have HB35 : Hid (Below w3.heap.size w3 w5) := HB4.out.trans (HB5.out.mono (by omega))
  obtain ⟨G, hG⟩ : ∃ G, w5.heap.size = G := ⟨_, rfl⟩
  obtain ⟨gv1, hg1⟩ : ∃ g, w3.heap.size = g := ⟨_, rfl⟩
  obtain ⟨gv2, hg2⟩ : ∃ g, w4.heap.size = g := ⟨_, rfl⟩
  have HBW : Hid (∀ W, Below G w5 W → Below R w W) := fun W hW => HB3.out.trans ((HB35.out.mono (by omega)).trans (hW.mono (by omega)))
  have HRW : Hid (∀ W, Below G w5 W → ResB W R) := fun W hW => (hW.block R (by omega)).trans ((HB35.out.block R hs3).trans HRES3.out)
  have HK1 : Hid (∀ (W : World) (q : Nat), Below G w5 W → q ≤ lr → Calls Tryz.prog 60 #[.slice A2 273 c2, .slice (some ⟨gv1, 0, none⟩) 273 273, .slice A lr c3, .int .i64 (q : Int), .int .i64 257] W fun e w' => ∃ (s b : Int) (x nx : Nat) (er : Int), e = .returned (.tuple #[agC s b (x : Int), .int .i64 (nx : Int), .int .i64 er]) ∧ ClsR F z1 257 L q lr s b x nx er ∧ Below W.heap.size W w') := fun W q hW hq => rclass13_any F hF A2 (some ⟨gv1, 0, none⟩) A 273 c2 273 lr c3 257 z1 L q W HCRA.out HZA.out
    (((HC2.out.below HB35.out (Nat.le_refl _)).below hW (by omega)).more (by have := hW.size; omega))
    (by
      have h := ib_cells HI4.out hs4
      rw [hg1] at h
      exact ((h.below HB5.out (Nat.le_refl _)).below hW (by omega)).more (by have := hW.size; omega))
    HLL.out hlr hc (HBY.out W (HBW.out W hW)) hq (by omega)
  have HK2 : Hid (∀ (W : World) (q : Nat), Below G w5 W → q ≤ lr → Calls Tryz.prog 60 #[.slice A3 30 c4, .slice (some ⟨gv2, 0, none⟩) 30 30, .slice A lr c3, .int .i64 (q : Int), .int .i64 0] W fun e w' => ∃ (s b : Int) (x nx : Nat) (er : Int), e = .returned (.tuple #[agC s b (x : Int), .int .i64 (nx : Int), .int .i64 er]) ∧ ClsR F z2 0 L q lr s b x nx er ∧ Below W.heap.size W w') := fun W q hW hq => rclass13_any F hF A3 (some ⟨gv2, 0, none⟩) A 30 c4 30 lr c3 0 z2 L q W HCRB.out HZB.out
    (((HC3.out.below HB35.out (Nat.le_refl _)).below hW (by omega)).more (by have := hW.size; omega))
    (by
      have h := ib_cells HI5.out hs5
      rw [hg2] at h
      exact (h.below hW (by omega)).more (by have := hW.size; omega))
    HLL.out hlr hc (HBY.out W (HBW.out W hW)) hq (by omega)
  have hRG : R < G := by omega
  obtain ⟨W6, hW6⟩ : ∃ W6, w5.alloc (.cells #[.slice none 0 0, .int .i64 0, .int .i64 (p2 : Int), .int .i64 0] 52) = W6 := ⟨_, rfl⟩
  have HI6 : Hid (RTI w5 W6 G (.slice none 0 0) 0 p2 []) := by
    show RTI _ _ _ _ _ _ _
    rw [← hW6, ← hG]
    exact ⟨heap_alloc_new w5 _, World.ownsRow_nil _ _ _ _, (Below.refl _ _).alloc (Nat.le_refl _) _⟩
  have HW6 := Lib.hid hW6
  have HLR : Hid (∀ (s b : Int) (x nx : Nat) (er : Int) (z : List Int) (zr q : Nat) (C : Int × (Nat × Nat × Nat) × Nat), clsF F z zr L q = C → ClsR F z zr L q lr s b x nx er → er = C.1 ∧ (er = 0 → s = (C.2.1.1 : Nat) ∧ b = (C.2.1.2.1 : Nat) ∧ C.2.1.2.2 = x ∧ nx = q + C.2.2 ∧ nx ≤ lr ∧ 1 ≤ C.2.2 ∧ C.2.1.1 < z.length ∧ C.2.1.2.1 ≤ 13 ∧ C.2.1.2.2 < 8192)) := fun s b x nx er z zr q C hC h => by unfold ClsR at h; rw [hC] at h; exact ⟨h.1, fun h0 => by obtain ⟨a1, a2, a3, a4⟩ := h.2 h0; exact ⟨a1, a2, a3.symm, a4⟩⟩
  have hp2' := hp2
  rw [hG, hg1, hg2, HW6.out]
  clear hW6 hs3 hs4 hs5 hG hg1 hg2 HB4 HB5 HI4 HI5 HB35 HC2 HC3 HRB HVB HRES3 HBL3 HBL2 HB3 HB2 HO2 HBY HB1 HR1 HZ1 HW1 HT1 HT2 r0 r1 r2 r3 f0 f1 f2 f3
  go_loopg [] (lr + 1 - p2) (fun gk wr => ∃ (ts : List Tk) (size pp : Nat) (A0 : Option Addr) (c0 : Nat), T = blkL F z1 z2 L most gk ts size pp ∧ pp ≤ lr ∧ lr + 1 ≤ pp + gk ∧ (size = 0 ∨ (size : Int) ≤ most) ∧ size = szs ts ∧ ts.length ≤ pp ∧ size ≤ 258 * ts.length ∧ RTI w5 wr G (.slice A0 ts.length c0) size pp ts)
  case atStart => exact ⟨[], 0, p2, none, 0, HTE.out, hp2', by omega, .inl rfl, rfl, Nat.zero_le _, Nat.zero_le _, HI6.out⟩
  case round =>
    obtain ⟨ts, size, pp, Av, cv, hte, hpp, hfu, hsm, hsz, hll, hsb, hrti⟩ := hrel
    obtain ⟨j, rfl⟩ : ∃ j, gk = j + 1 := ⟨gk - 1, by omega⟩
    have HTE2 := Lib.hid hte
    have HSZ := Lib.hid hsz
    have HI := Lib.hid hrti
    obtain ⟨ll, hlln⟩ : ∃ ll, ts.length = ll := ⟨_, rfl⟩
    have HLN := Lib.hid hlln
    rw [hlln] at hrti hll hsb
    obtain ⟨g0, g1, g2, g3, k0, k1, k2⟩ := rti_cells hrti
    have t13 : decide ((pp : Int) ≤ (lr : Int)) = true := decide_eq_true (by omega)
    have t13n : decide (pp ≤ lr) = true := decide_eq_true hpp
    have HCL := Lib.hid (HK1.out wr pp hrti.bel hpp)
    obtain ⟨⟨er1, ⟨n1, b1, x1⟩, on1⟩, hc1⟩ : ∃ C, clsF F z1 257 L pp = C := ⟨_, rfl⟩
    have HC1 := Lib.hid hc1
    clear hte hsz hlln hrti hc1 HTE HI6
    go_wp2_with fail
    refine HCL.out.mono ?_
    rintro e w6 ⟨s, b, x, nx, er, rfl, hcl, hb6⟩
    obtain ⟨hcl1, hcl2⟩ := HLR.out _ _ _ _ _ _ _ _ _ HC1.out hcl
    dsimp only at hcl1 hcl2
    subst hcl1
    unfold agC
    have HI6 := Lib.hid (HI.out.below hb6)
    obtain ⟨W7, hW7⟩ : ∃ W7, w6.alloc (.cells #[.int .i64 s, .int .i64 b, .int .u32 (x : Int)] 88) = W7 := ⟨_, rfl⟩
    have HI7 : Hid (RTI w5 W7 G (.slice Av ts.length cv) size pp ts) := by show RTI _ _ _ _ _ _ _; rw [← hW7]; exact HI6.out.below ((Below.refl _ w6).alloc (Nat.le_refl _) _)
    have hx7 : W7.heap[w6.heap.size]? = some (.cells #[.int .i64 s, .int .i64 b, .int .u32 (x : Int)] 88 (0, 0)) := by rw [← hW7]; exact heap_alloc_new w6 _
    have hG6 : G < w6.heap.size := HI6.out.lt
    have HW7 := Lib.hid hW7
    clear hW7 hb6 hcl g0 g1 g2 g3 k0 k1 k2
    go_upto_region 15 with fail
    rw [HW7.out]
    clear HW7
    by_cases her : er = 0
    rotate_left
    · have HTQ : Hid (T = (er, [], 0)) := by show _ = _; rw [HTE2.out, blkL, HC1.out]; dsimp only; rw [if_pos her]
      have HNE := Lib.hid her
      have v1 : (er != 0) = true := by simpa using her
      obtain ⟨r0, r1, r2, r3, f0, f1, f2, f3⟩ := res_cells (HRW.out W7 HI7.out.bel)
      clear her hcl2 hx7
      go_wp2
      refine bodyPost_ret (v := .agg #[.slice none 0 0, .int .i64 0, .int .i64 0, .int .i64 er]) ?_ rfl (RtQ.err HTQ.out HNE.out HRR.out (HBW.out W7 HI7.out.bel) _ _ _ _)
      rw [results_cell1 rfl]
      go_simp
      try rfl
    subst her
    obtain ⟨rfl, rfl, rfl, rfl, hnx, hon, hn1, hb13, hx81⟩ := hcl2 rfl
    rw [HZA.out] at hn1
    obtain ⟨nx, hnxe⟩ : ∃ nx, pp + on1 = nx := ⟨_, rfl⟩
    rw [hnxe] at hnx
    rw [hnxe]
    have HNX := Lib.hid hnxe
    have HTL1 : Hid (T = if n1 = 256 then (0, ts, nx) else if 256 < n1 ∧ (clsF F z2 0 L nx).1 ≠ 0 then ((clsF F z2 0 L nx).1, [], 0) else
      match (if 256 < n1 then joinR (n1 : Int) (b1 : Int) x1 ((clsF F z2 0 L nx).2.1.1 : Nat) ((clsF F z2 0 L nx).2.1.2.1 : Nat) (clsF F z2 0 L nx).2.1.2.2 true else joinR (n1 : Int) (b1 : Int) x1 0 0 0 false) with
      | none => (3, [], 0)
      | some (y, l, d) =>
        if size < d then (3, [], 0)
        else if most - (size : Int) < (max l 1 : Nat) then (5, [], 0)
        else blkL F z1 z2 L most j (ts ++ [(UInt8.ofNat y, l, d)]) (size + max l 1) (nx + (if 256 < n1 then (clsF F z2 0 L nx).2.2 else 0))) := by
      show _ = _
      rw [HTE2.out, blkL, HC1.out]
      dsimp only
      rw [if_neg (by simp), HNX.out]
      rfl
    obtain ⟨F1, hF1⟩ : ∃ F1, w6.heap.size = F1 := ⟨_, rfl⟩
    rw [hF1] at hx7 hG6
    rw [hF1]
    obtain ⟨W8, hW8⟩ : ∃ W8, W7.setCell ⟨G, 2, none⟩ (.int .i64 (nx : Int)) = W8 := ⟨_, rfl⟩
    have HI8 : Hid (RTI w5 W8 G (.slice Av ts.length cv) size nx ts) := by show RTI _ _ _ _ _ _ _; rw [← hW8]; exact HI7.out.at_ nx
    have hx8 : W8.heap[F1]? = some (.cells #[.int .i64 (n1 : Int), .int .i64 (b1 : Int), .int .u32 (x1 : Int)] 88 (0, 0)) := by rw [← hW8]; exact (Below.heap_setCell _ _ _ _ (by show F1 ≠ G; omega)).trans hx7
    have HX8 := Lib.hid hx8
    have HW8 := Lib.hid hW8
    have hk2 := (rti_cells HI7.out).2.2.2.2.2.2
    have hg2' := (rti_cells HI7.out).2.2.1
    clear hW8 hx7 hF1 hnxe hcl2
    go_upto_region 18 with fail
    rw [HW8.out]
    obtain ⟨g0, g1, g2, g3, k0, k1, k2⟩ := rti_cells HI8.out
    have q0 : W8.cell? ⟨F1, 0, none⟩ = some (.int .i64 (n1 : Int)) := cell_of_row _ _ 0 _ _ _ hx8
    obtain ⟨r0, r1, r2, r3, f0, f1, f2, f3⟩ := res_cells (HRW.out W8 HI8.out.bel)
    clear HW8 hk2 hg2' hx8
    by_cases h256 : n1 = 256
    · have HTQ : Hid (T = (0, ts, nx)) := by show _ = _; rw [HTL1.out, if_pos h256]
      have u0 : ((n1 : Int) == 256) = true := by simp; omega
      have hle8 := HI8.out.lt
      clear h256
      go_wp2
      refine bodyPost_ret (v := .agg #[.slice Av ts.length cv, .int .i64 (size : Int), .int .i64 (nx : Int), .int .i64 0]) ?_ rfl ?_
      · rw [results_cell1 rfl]
        go_simp
        try rfl
      · rw [HTQ.out]
        exact ⟨Av, cv, size, nx, rfl, fun _ => ⟨HSZ.out, rfl, hnx⟩, own_leP (set4_row HI8.out.row (by omega) _ _ _ _) (by have := HRR.out; omega), by have h := set4_below (HBW.out W8 HI8.out.bel) (Nat.le_refl R) (.slice Av ts.length cv) (.int .i64 (size : Int)) (.int .i64 (nx : Int)) (.int .i64 0); have h2 := HRR.out; rw [h2]; exact h⟩
    have u0 : ((n1 : Int) == 256) = false := by simp; omega
    obtain ⟨S1, hS1⟩ : ∃ S1, W8.heap.size = S1 := ⟨_, rfl⟩
    obtain ⟨W9, hW9⟩ : ∃ W9, W8.alloc (.cells #[.int .i64 0, .int .i64 0, .int .u32 0] 88) = W9 := ⟨_, rfl⟩
    have hb9 : Below W8.heap.size W8 W9 := by rw [← hW9]; exact (Below.refl _ _).alloc (Nat.le_refl _) _
    have HI9 := Lib.hid (HI8.out.below hb9)
    have hx9 := (hb9.block _ (Array.getElem?_eq_some_iff.1 HX8.out).1).trans HX8.out
    have hF18 : F1 < S1 := by rw [← hS1]; exact (Array.getElem?_eq_some_iff.1 HX8.out).1
    have hGS : G < S1 := by rw [← hS1]; exact HI8.out.lt
    have hy9 : W9.heap[S1]? = some (.cells #[.int .i64 0, .int .i64 0, .int .u32 0] 88 (0, 0)) := by rw [← hW9, ← hS1]; exact heap_alloc_new W8 _
    have HOWN : Hid (∀ k, ownS (.slice Av ts.length cv) k → k ≠ S1) := fun k hk => by have h := (HI8.out.row.lt k hk).2; omega
    have HW9 := Lib.hid hW9
    have HS1 := Lib.hid hS1
    clear hW9 hS1 hb9
    go_upto_region 21 with fail
    rw [HW9.out, HS1.out]
    clear HW9 HS1 q0 g0 g1 g2 g3 k0 k1 k2 r0 r1 r2 r3 f0 f1 f2 f3
    have q0 : W9.cell? ⟨F1, 0, none⟩ = some (.int .i64 (n1 : Int)) := cell_of_row _ _ 0 _ _ _ hx9
    by_cases hm : 256 < n1
    · have u1 : decide ((256 : Int) < (n1 : Int)) = true := decide_eq_true (by omega)
      have u1n : decide (256 < n1) = true := decide_eq_true hm
      have HX9 := Lib.hid hx9
      have HY9 := Lib.hid hy9
      have HCL := Lib.hid (HK2.out W9 nx HI9.out.bel hnx)
      obtain ⟨⟨er2, ⟨n2, b2, x2⟩, on2⟩, hc2⟩ : ∃ C, clsF F z2 0 L nx = C := ⟨_, rfl⟩
      have HC2 := Lib.hid hc2
      have g2 : W9.cell? ⟨G, 2, none⟩ = some (.int .i64 (nx : Int)) := (rti_cells HI9.out).2.2.1
      rw [hc2] at HTL1
      dsimp only at HTL1
      clear hc2 hx9 hy9
      go_wp2_with fail
      refine HCL.out.mono ?_
      rintro e w10 ⟨s, b, x, nx2, er, rfl, hcl, hb10⟩
      obtain ⟨hcl1, hcl2⟩ := HLR.out _ _ _ _ _ _ _ _ _ HC2.out hcl
      dsimp only at hcl1 hcl2
      subst hcl1
      unfold agC
      have HI10 := Lib.hid (HI9.out.below hb10)
      have hx10 := (hb10.block _ (Array.getElem?_eq_some_iff.1 HX9.out).1).trans HX9.out
      have hy10 := (hb10.block _ (Array.getElem?_eq_some_iff.1 HY9.out).1).trans HY9.out
      have i0 : w10.cell? ⟨S1, 0, none⟩ = some (.int .i64 0) := cell_of_row _ _ 0 _ _ _ hy10
      have i1 : w10.cell? ⟨S1, 1, none⟩ = some (.int .i64 0) := cell_of_row _ _ 1 _ _ _ hy10
      have i2 : w10.cell? ⟨S1, 2, none⟩ = some (.int .u32 0) := cell_of_row _ _ 2 _ _ _ hy10
      have z0 : w10.frozen? ⟨S1, 0, none⟩ = false := frozen_of_row _ _ 0 _ _ hy10
      have z1' : w10.frozen? ⟨S1, 1, none⟩ = false := frozen_of_row _ _ 1 _ _ hy10
      have z2' : w10.frozen? ⟨S1, 2, none⟩ = false := frozen_of_row _ _ 2 _ _ hy10
      obtain ⟨W11, hW11⟩ : ∃ W11, (((w10.setCell ⟨S1, 0, none⟩ (.int .i64 s)).setCell ⟨S1, 1, none⟩ (.int .i64 b)).setCell ⟨S1, 2, none⟩ (.int .u32 (x : Int))) = W11 := ⟨_, rfl⟩
      have HI11 : Hid (RTI w5 W11 G (.slice Av ts.length cv) size nx ts) := by show RTI _ _ _ _ _ _ _; rw [← hW11]; exact HI10.out.set3 hGS HOWN.out _ _ _
      have hx11 : W11.heap[F1]? = some (.cells #[.int .i64 (n1 : Int), .int .i64 (b1 : Int), .int .u32 (x1 : Int)] 88 (0, 0)) := by rw [← hW11]; exact (set3_mod w10 S1 0 1 2 _ _ _).keep hx10 (fun h => by have h2 : F1 = S1 := h; omega)
      have hy11 : W11.heap[S1]? = some (.cells #[.int .i64 s, .int .i64 b, .int .u32 (x : Int)] 88 (0, 0)) := by rw [← hW11]; exact row3_set hy10 _ _ _
      have HW11 := Lib.hid hW11
      clear hW11 hb10 hcl hx10 hy10 g2 q0
      go_upto_region 23 with fail
      rw [HW11.out]
      clear HW11 i0 i1 i2 z0 z1' z2'
      by_cases her : er = 0
      rotate_left
      · have HTQ : Hid (T = (er, [], 0)) := by show _ = _; rw [HTL1.out, if_neg h256, if_pos ⟨hm, her⟩]
        have HNE := Lib.hid her
        have v1 : (er != 0) = true := by simpa using her
        obtain ⟨r0, r1, r2, r3, f0, f1, f2, f3⟩ := res_cells (HRW.out W11 HI11.out.bel)
        clear her hcl2 hx11 hy11 h256 hm
        go_wp2
        refine bodyPost_ret (v := .agg #[.slice none 0 0, .int .i64 0, .int .i64 0, .int .i64 er]) ?_ rfl (RtQ.err HTQ.out HNE.out HRR.out (HBW.out W11 HI11.out.bel) _ _ _ _)
        rw [results_cell1 rfl]
        go_simp
        try rfl
      subst her
      obtain ⟨rfl, rfl, rfl, rfl, hnx2, hon2, hn2, hb132, hx812⟩ := hcl2 rfl
      rw [HZB.out] at hn2
      obtain ⟨nx2, hnxe2⟩ : ∃ nx2, nx + on2 = nx2 := ⟨_, rfl⟩
      rw [hnxe2] at hnx2
      rw [hnxe2]
      have HNX2 := Lib.hid hnxe2
      obtain ⟨W12, hW12⟩ : ∃ W12, W11.setCell ⟨G, 2, none⟩ (.int .i64 (nx2 : Int)) = W12 := ⟨_, rfl⟩
      have HI12 : Hid (RTI w5 W12 G (.slice Av ts.length cv) size nx2 ts) := by show RTI _ _ _ _ _ _ _; rw [← hW12]; exact HI11.out.at_ nx2
      have hx12 : W12.heap[F1]? = some (.cells #[.int .i64 (n1 : Int), .int .i64 (b1 : Int), .int .u32 (x1 : Int)] 88 (0, 0)) := by rw [← hW12]; exact (Below.heap_setCell _ _ _ _ (by show F1 ≠ G; omega)).trans hx11
      have hy12 : W12.heap[S1]? = some (.cells #[.int .i64 (n2 : Int), .int .i64 (b2 : Int), .int .u32 (x2 : Int)] 88 (0, 0)) := by rw [← hW12]; exact (Below.heap_setCell _ _ _ _ (by show S1 ≠ G; omega)).trans hy11
      have HW12 := Lib.hid hW12
      have hk2 := (rti_cells HI11.out).2.2.2.2.2.2
      have hg2' := (rti_cells HI11.out).2.2.1
      clear hW12 hx11 hy11 hnxe2 hcl2
      go_upto_region 26 with fail
      rw [HW12.out]
      clear HW12 hk2 hg2'
      have q0 : W12.cell? ⟨F1, 0, none⟩ = some (.int .i64 (n1 : Int)) := cell_of_row _ _ 0 _ _ _ hx12
      have q1 : W12.cell? ⟨F1, 1, none⟩ = some (.int .i64 (b1 : Int)) := cell_of_row _ _ 1 _ _ _ hx12
      have q2 : W12.cell? ⟨F1, 2, none⟩ = some (.int .u32 (x1 : Int)) := cell_of_row _ _ 2 _ _ _ hx12
      have s0 : W12.cell? ⟨S1, 0, none⟩ = some (.int .i64 (n2 : Int)) := cell_of_row _ _ 0 _ _ _ hy12
      have s1 : W12.cell? ⟨S1, 1, none⟩ = some (.int .i64 (b2 : Int)) := cell_of_row _ _ 1 _ _ _ hy12
      have s2 : W12.cell? ⟨S1, 2, none⟩ = some (.int .u32 (x2 : Int)) := cell_of_row _ _ 2 _ _ _ hy12
      have HTL : Hid (T = match joinR (n1 : Int) (b1 : Int) x1 (n2 : Int) (b2 : Int) x2 true with
        | none => (3, [], 0)
        | some (y, l, d) =>
          if size < d then (3, [], 0)
          else if most - (size : Int) < (max l 1 : Nat) then (5, [], 0)
          else blkL F z1 z2 L most j (ts ++ [(UInt8.ofNat y, l, d)]) (size + max l 1) nx2) := by
        show _ = _
        rw [HTL1.out, if_neg h256, if_neg (by simp), if_pos hm, if_pos hm, HNX2.out]
      have hpr : ll + 1 ≤ nx2 := by have := HNX.out; have := HNX2.out; omega
      have hfu2 : lr + 1 ≤ nx2 + j := by have := HNX.out; have := HNX2.out; omega
      clear hx12 hy12 h256 hm
      have HJ := Lib.hid (rjoin_all (n1 := (n1 : Int)) (b1 := (b1 : Int)) (x1 := x1) (n2 := (n2 : Int)) (b2 := (b2 : Int)) (x2 := x2) true W12 (by omega) (by omega))
      obtain ⟨J, hJ⟩ : ∃ J, joinR (n1 : Int) (b1 : Int) x1 (n2 : Int) (b2 : Int) x2 true = J := ⟨_, rfl⟩
      rw [hJ] at HJ HTL
      have HJB := Lib.hid (joinR_bd hJ)
      unfold agC at HJ
      clear hJ
      cases J with
      | none =>
        unfold joinV agT at HJ
        go_upto_region 27 with (go_at_call 61; refine HJ.out.mono ?_; rintro e w20 ⟨rfl, hb20⟩; obtain ⟨W21, hW21⟩ : ∃ W21, w20.alloc (.cells #[.int .u8 0, .int .i64 0, .int .i64 0] 71) = W21 := ⟨_, rfl⟩; have HI21 : Hid (RTI w5 W21 G (.slice Av ts.length cv) size nx2 ts) := (by rw [← hW21]; exact (HI12.out.below hb20).below ((Below.refl _ w20).alloc (Nat.le_refl _) _)); have HW21 := Lib.hid hW21; clear hW21 hb20)
        rw [HW21.out]
        have HTQ : Hid (T = (3, [], 0)) := HTL.out
        obtain ⟨r0, r1, r2, r3, f0, f1, f2, f3⟩ := res_cells (HRW.out W21 HI21.out.bel)
        clear HW21
        go_wp2
        refine bodyPost_ret (v := .agg #[.slice none 0 0, .int .i64 0, .int .i64 0, .int .i64 3]) ?_ rfl (RtQ.err HTQ.out (by decide) HRR.out (HBW.out W21 HI21.out.bel) _ _ _ _)
        rw [results_cell1 rfl]
        go_simp
        try rfl
      | some q =>
        obtain ⟨y, l, d⟩ := q
        unfold joinV agT at HJ
        dsimp only at HTL
        obtain ⟨hy256, hl258, hd⟩ := HJB.out y l d rfl
        have HYY : Hid ((UInt8.ofNat y).toNat = y) := by show _ = _; simp; omega
        go_upto_region 27 with (go_at_call 61; refine HJ.out.mono ?_; rintro e w20 ⟨rfl, hb20⟩; obtain ⟨W21, hW21⟩ : ∃ W21, w20.alloc (.cells #[.int .u8 (y : Int), .int .i64 (l : Int), .int .i64 (d : Int)] 71) = W21 := ⟨_, rfl⟩; have HI21 : Hid (RTI w5 W21 G (.slice Av ts.length cv) size nx2 ts) := (by rw [← hW21]; exact (HI12.out.below hb20).below ((Below.refl _ w20).alloc (Nat.le_refl _) _)); have hx21 : W21.heap[w20.heap.size]? = some (.cells #[.int .u8 (y : Int), .int .i64 (l : Int), .int .i64 (d : Int)] 71 (0, 0)) := (by rw [← hW21]; exact heap_alloc_new w20 _); have HW21 := Lib.hid hW21; clear hW21 hb20)
        rw [HW21.out]
        clear HW21 q0 q1 q2 s0 s1 s2
        obtain ⟨r0, r1, r2, r3, f0, f1, f2, f3⟩ := res_cells (HRW.out W21 HI21.out.bel)
        have hrt := HI21.out
        have HLN' := HLN.out
        obtain ⟨g0, g1, g2, g3, k0, k1, k2⟩ := rti_cells hrt
        rw [HLN'] at g0
        have p0 : W21.cell? ⟨w20.heap.size, 0, none⟩ = some (.int .u8 (y : Int)) := cell_of_row _ _ 0 _ _ _ hx21
        have p1 : W21.cell? ⟨w20.heap.size, 1, none⟩ = some (.int .i64 (l : Int)) := cell_of_row _ _ 1 _ _ _ hx21
        have p2' : W21.cell? ⟨w20.heap.size, 2, none⟩ = some (.int .i64 (d : Int)) := cell_of_row _ _ 2 _ _ _ hx21
        clear hrt hx21 HLN'
        by_cases hdd : size < d
        · have HTQ : Hid (T = (3, [], 0)) := by show _ = _; rw [HTL.out, if_pos hdd]
          have u2 : decide ((size : Int) < (d : Int)) = true := decide_eq_true (by omega)
          have u2n : decide (size < d) = true := decide_eq_true hdd
          clear hdd
          go_wp2
          refine bodyPost_ret (v := .agg #[.slice none 0 0, .int .i64 0, .int .i64 0, .int .i64 3]) ?_ rfl (RtQ.err HTQ.out (by decide) HRR.out (HBW.out W21 HI21.out.bel) _ _ _ _)
          rw [results_cell1 rfl]
          go_simp
          try rfl
        rw [if_neg hdd] at HTL
        have u2 : decide ((size : Int) < (d : Int)) = false := decide_eq_false (by omega)
        have u2n : decide (size < d) = false := decide_eq_false hdd
        clear hdd
        by_cases hl0 : l = 0
        · have u3 : ((l : Int) == 0) = true := by simp; omega
          have hmx : max l 1 = 1 := by omega
          rw [hmx] at HTL
          have HL0 := Lib.hid hl0
          clear hl0 hmx
          by_cases hbm : most < (size : Int)
          · have HTQ : Hid (T = (5, [], 0)) := by show _ = _; rw [HTL.out, if_pos (by omega)]
            have u4 : decide (most < (size : Int)) = true := decide_eq_true hbm
            clear hbm
            go_wp2
            refine bodyPost_ret (v := .agg #[.slice none 0 0, .int .i64 0, .int .i64 0, .int .i64 5]) ?_ rfl (RtQ.err HTQ.out (by decide) HRR.out (HBW.out W21 HI21.out.bel) _ _ _ _)
            rw [results_cell1 rfl]
            go_simp
            try rfl
          have u4 : decide (most < (size : Int)) = false := decide_eq_false hbm
          have hwr : IntKind.i64.wrap (most - (size : Int)) = most - (size : Int) := IntWalk.i64_in _ (by omega)
          by_cases hbig : most - (size : Int) < 1
          · have HTQ : Hid (T = (5, [], 0)) := by show _ = _; rw [HTL.out, if_pos (by first | exact hbig | omega)]
            have u5 : decide (most - (size : Int) < 1) = true := decide_eq_true hbig
            clear hbm hbig
            go_wp2
            refine bodyPost_ret (v := .agg #[.slice none 0 0, .int .i64 0, .int .i64 0, .int .i64 5]) ?_ rfl (RtQ.err HTQ.out (by decide) HRR.out (HBW.out W21 HI21.out.bel) _ _ _ _)
            rw [results_cell1 rfl]
            go_simp
            try rfl
          · have HTQ : Hid (T = blkL F z1 z2 L most j (ts ++ [(UInt8.ofNat y, l, d)]) (size + 1) nx2) := by show _ = _; rw [HTL.out, if_neg (by first | exact hbig | omega)]
            have u5 : decide (most - (size : Int) < 1) = false := decide_eq_false hbig
            have hsm2 : ((size + 1 : Nat) : Int) ≤ most := by omega
            have HFM : Hid ((ts ++ [(UInt8.ofNat y, l, d)]).flatMap tcC = ts.flatMap tcC ++ [.int .u8 (y : Int), .int .i64 (l : Int), .int .i64 (d : Int)]) := by show _ = _; rw [List.flatMap_append]; simp only [List.flatMap_cons, List.flatMap_nil, List.append_nil, tcC, HYY.out]
            have HFL : Hid ((ts ++ [(UInt8.ofNat y, l, d)]).length = ll + 1) := by show _ = _; rw [List.length_append, HLN.out]; rfl
            have HSZ2 : Hid (size + 1 = szs (ts ++ [(UInt8.ofNat y, l, d)])) := by show _ = _; rw [szs_snoc, ← HSZ.out]; congr 1; have := HL0.out; show _ = max l 1; omega
            have hll6 : ll ≤ 1000000 := by omega
            have HROW : Hid (W21.ownsRow (G + 1) 71 3 (.slice Av ll cv) ll (ts.flatMap tcC)) := by have h := HI21.out.row; rw [HLN.out] at h; exact h
            have hG21 := HI21.out.lt
            clear hbm hbig
            go_wp2_with (at_builtin; refine wpList_app (W21.alloc (.cells #[.int .u8 (y : Int), .int .i64 (l : Int), .int .i64 (d : Int)] 71)) tcElem rfl (.tmp 149) (.tmp 151) rfl (G + 1) (.slice Av ll cv) ll (ts.flatMap tcC) rfl (HROW.out.alloc _) (W21.heap.size + 1) (some ⟨W21.heap.size, 0, none⟩) 1 1 [.int .u8 (y : Int), .int .i64 (l : Int), .int .i64 (d : Int)] rfl rfl (cells3_one W21 _ _ _ _) (by simp [Value.oneCell']) (by unfold maxLen; omega) (by omega) (by simp; omega) ?_; intro A7 c7 w22 hA; have HA7 := Lib.hid hA; have hbx := (Mod.of_app hA).keep ((HI21.out.below ((Below.refl _ W21).alloc (Nat.le_refl _) (.cells #[.int .u8 (y : Int), .int .i64 (l : Int), .int .i64 (d : Int)] 71))).box) (fun hk => by have := own_base HROW.out _ hk; omega); have g0' : w22.cell? ⟨G, 0, none⟩ = some (.slice Av ts.length cv) := cell_of_row _ _ 0 _ _ _ hbx; have g1' : w22.cell? ⟨G, 1, none⟩ = some (.int .i64 (size : Int)) := cell_of_row _ _ 1 _ _ _ hbx; have k0' : w22.frozen? ⟨G, 0, none⟩ = false := frozen_of_row _ _ 0 _ _ hbx; have k1' : w22.frozen? ⟨G, 1, none⟩ = false := frozen_of_row _ _ 1 _ _ hbx; clear hA hbx)
            have HI22 := Lib.hid ((HI21.out.below ((Below.refl _ W21).alloc (Nat.le_refl _) (.cells #[.int .u8 (y : Int), .int .i64 (l : Int), .int .i64 (d : Int)] 71))).more (ts' := ts ++ [(UInt8.ofNat y, l, d)]) (by rw [HLN.out]; exact HA7.out) HFL.out.symm HFM.out.symm (size + 1))
            go_roundg j
            case measure => omega
            case rel =>
              refine ⟨ts ++ [(UInt8.ofNat y, l, d)], size + 1, nx2, A7, c7, HTQ.out, hnx2, hfu2, .inr hsm2, HSZ2.out, by rw [HFL.out]; exact hpr, by rw [HFL.out]; omega, ?_⟩
              have h := HI22.out
              rw [HFL.out]
              push_cast at h
              exact h
        · have u3 : ((l : Int) == 0) = false := by simp; omega
          have hmx : max l 1 = l := by omega
          rw [hmx] at HTL
          clear hmx
          by_cases hbm : most < (size : Int)
          · have HTQ : Hid (T = (5, [], 0)) := by show _ = _; rw [HTL.out, if_pos (by omega)]
            have u4 : decide (most < (size : Int)) = true := decide_eq_true hbm
            clear hbm
            go_wp2
            refine bodyPost_ret (v := .agg #[.slice none 0 0, .int .i64 0, .int .i64 0, .int .i64 5]) ?_ rfl (RtQ.err HTQ.out (by decide) HRR.out (HBW.out W21 HI21.out.bel) _ _ _ _)
            rw [results_cell1 rfl]
            go_simp
            try rfl
          have u4 : decide (most < (size : Int)) = false := decide_eq_false hbm
          have hwr : IntKind.i64.wrap (most - (size : Int)) = most - (size : Int) := IntWalk.i64_in _ (by omega)
          by_cases hbig : most - (size : Int) < (l : Int)
          · have HTQ : Hid (T = (5, [], 0)) := by show _ = _; rw [HTL.out, if_pos (by first | exact hbig | omega)]
            have u5 : decide (most - (size : Int) < (l : Int)) = true := decide_eq_true hbig
            clear hbm hbig
            go_wp2
            refine bodyPost_ret (v := .agg #[.slice none 0 0, .int .i64 0, .int .i64 0, .int .i64 5]) ?_ rfl (RtQ.err HTQ.out (by decide) HRR.out (HBW.out W21 HI21.out.bel) _ _ _ _)
            rw [results_cell1 rfl]
            go_simp
            try rfl
          · have HTQ : Hid (T = blkL F z1 z2 L most j (ts ++ [(UInt8.ofNat y, l, d)]) (size + l) nx2) := by show _ = _; rw [HTL.out, if_neg (by first | exact hbig | omega)]
            have u5 : decide (most - (size : Int) < (l : Int)) = false := decide_eq_false hbig
            have hsm2 : ((size + l : Nat) : Int) ≤ most := by omega
            have HFM : Hid ((ts ++ [(UInt8.ofNat y, l, d)]).flatMap tcC = ts.flatMap tcC ++ [.int .u8 (y : Int), .int .i64 (l : Int), .int .i64 (d : Int)]) := by show _ = _; rw [List.flatMap_append]; simp only [List.flatMap_cons, List.flatMap_nil, List.append_nil, tcC, HYY.out]
            have HFL : Hid ((ts ++ [(UInt8.ofNat y, l, d)]).length = ll + 1) := by show _ = _; rw [List.length_append, HLN.out]; rfl
            have HSZ2 : Hid (size + l = szs (ts ++ [(UInt8.ofNat y, l, d)])) := by show _ = _; rw [szs_snoc, ← HSZ.out]; congr 1; show _ = max l 1; omega
            have hll6 : ll ≤ 1000000 := by omega
            have HROW : Hid (W21.ownsRow (G + 1) 71 3 (.slice Av ll cv) ll (ts.flatMap tcC)) := by have h := HI21.out.row; rw [HLN.out] at h; exact h
            have hG21 := HI21.out.lt
            clear hbm hbig
            go_wp2_with (at_builtin; refine wpList_app (W21.alloc (.cells #[.int .u8 (y : Int), .int .i64 (l : Int), .int .i64 (d : Int)] 71)) tcElem rfl (.tmp 149) (.tmp 151) rfl (G + 1) (.slice Av ll cv) ll (ts.flatMap tcC) rfl (HROW.out.alloc _) (W21.heap.size + 1) (some ⟨W21.heap.size, 0, none⟩) 1 1 [.int .u8 (y : Int), .int .i64 (l : Int), .int .i64 (d : Int)] rfl rfl (cells3_one W21 _ _ _ _) (by simp [Value.oneCell']) (by unfold maxLen; omega) (by omega) (by simp; omega) ?_; intro A7 c7 w22 hA; have HA7 := Lib.hid hA; have hbx := (Mod.of_app hA).keep ((HI21.out.below ((Below.refl _ W21).alloc (Nat.le_refl _) (.cells #[.int .u8 (y : Int), .int .i64 (l : Int), .int .i64 (d : Int)] 71))).box) (fun hk => by have := own_base HROW.out _ hk; omega); have g0' : w22.cell? ⟨G, 0, none⟩ = some (.slice Av ts.length cv) := cell_of_row _ _ 0 _ _ _ hbx; have g1' : w22.cell? ⟨G, 1, none⟩ = some (.int .i64 (size : Int)) := cell_of_row _ _ 1 _ _ _ hbx; have k0' : w22.frozen? ⟨G, 0, none⟩ = false := frozen_of_row _ _ 0 _ _ hbx; have k1' : w22.frozen? ⟨G, 1, none⟩ = false := frozen_of_row _ _ 1 _ _ hbx; clear hA hbx)
            have HI22 := Lib.hid ((HI21.out.below ((Below.refl _ W21).alloc (Nat.le_refl _) (.cells #[.int .u8 (y : Int), .int .i64 (l : Int), .int .i64 (d : Int)] 71))).more (ts' := ts ++ [(UInt8.ofNat y, l, d)]) (by rw [HLN.out]; exact HA7.out) HFL.out.symm HFM.out.symm (size + l))
            go_roundg j
            case measure => omega
            case rel =>
              refine ⟨ts ++ [(UInt8.ofNat y, l, d)], size + l, nx2, A7, c7, HTQ.out, hnx2, hfu2, .inr hsm2, HSZ2.out, by rw [HFL.out]; exact hpr, by rw [HFL.out]; omega, ?_⟩
              have h := HI22.out
              rw [HFL.out]
              push_cast at h
              exact h
    · have u1 : decide ((256 : Int) < (n1 : Int)) = false := decide_eq_false (by omega)
      have u1n : decide (256 < n1) = false := decide_eq_false hm
      have q1 : W9.cell? ⟨F1, 1, none⟩ = some (.int .i64 (b1 : Int)) := cell_of_row _ _ 1 _ _ _ hx9
      have q2 : W9.cell? ⟨F1, 2, none⟩ = some (.int .u32 (x1 : Int)) := cell_of_row _ _ 2 _ _ _ hx9
      have s0 : W9.cell? ⟨S1, 0, none⟩ = some (.int .i64 0) := cell_of_row _ _ 0 _ _ _ hy9
      have s1 : W9.cell? ⟨S1, 1, none⟩ = some (.int .i64 0) := cell_of_row _ _ 1 _ _ _ hy9
      have s2 : W9.cell? ⟨S1, 2, none⟩ = some (.int .u32 0) := cell_of_row _ _ 2 _ _ _ hy9
      have HTL : Hid (T = match joinR (n1 : Int) (b1 : Int) x1 0 0 0 false with
        | none => (3, [], 0)
        | some (y, l, d) =>
          if size < d then (3, [], 0)
          else if most - (size : Int) < (max l 1 : Nat) then (5, [], 0)
          else blkL F z1 z2 L most j (ts ++ [(UInt8.ofNat y, l, d)]) (size + max l 1) nx) := by
        show _ = _
        rw [HTL1.out, if_neg h256, if_neg (fun h => hm h.1), if_neg hm, if_neg hm, Nat.add_zero]
      have hpr : ll + 1 ≤ nx := by have := HNX.out; omega
      have hfu2 : lr + 1 ≤ nx + j := by have := HNX.out; omega
      clear hx9 hy9 h256 hm
      have HJ := Lib.hid (rjoin_all (n1 := (n1 : Int)) (b1 := (b1 : Int)) (x1 := x1) (n2 := 0) (b2 := 0) (x2 := 0) false W9 (by omega) (by omega))
      obtain ⟨J, hJ⟩ : ∃ J, joinR (n1 : Int) (b1 : Int) x1 0 0 0 false = J := ⟨_, rfl⟩
      rw [hJ] at HJ HTL
      have HJB := Lib.hid (joinR_bd hJ)
      unfold agC at HJ
      clear hJ
      cases J with
      | none =>
        unfold joinV agT at HJ
        go_upto_region 27 with (go_at_call 61; refine HJ.out.mono ?_; rintro e w20 ⟨rfl, hb20⟩; obtain ⟨W21, hW21⟩ : ∃ W21, w20.alloc (.cells #[.int .u8 0, .int .i64 0, .int .i64 0] 71) = W21 := ⟨_, rfl⟩; have HI21 : Hid (RTI w5 W21 G (.slice Av ts.length cv) size nx ts) := (by rw [← hW21]; exact (HI9.out.below hb20).below ((Below.refl _ w20).alloc (Nat.le_refl _) _)); have HW21 := Lib.hid hW21; clear hW21 hb20)
        rw [HW21.out]
        have HTQ : Hid (T = (3, [], 0)) := HTL.out
        obtain ⟨r0, r1, r2, r3, f0, f1, f2, f3⟩ := res_cells (HRW.out W21 HI21.out.bel)
        clear HW21
        go_wp2
        refine bodyPost_ret (v := .agg #[.slice none 0 0, .int .i64 0, .int .i64 0, .int .i64 3]) ?_ rfl (RtQ.err HTQ.out (by decide) HRR.out (HBW.out W21 HI21.out.bel) _ _ _ _)
        rw [results_cell1 rfl]
        go_simp
        try rfl
      | some q =>
        obtain ⟨y, l, d⟩ := q
        unfold joinV agT at HJ
        dsimp only at HTL
        obtain ⟨hy256, hl258, hd⟩ := HJB.out y l d rfl
        have HYY : Hid ((UInt8.ofNat y).toNat = y) := by show _ = _; simp; omega
        go_upto_region 27 with (go_at_call 61; refine HJ.out.mono ?_; rintro e w20 ⟨rfl, hb20⟩; obtain ⟨W21, hW21⟩ : ∃ W21, w20.alloc (.cells #[.int .u8 (y : Int), .int .i64 (l : Int), .int .i64 (d : Int)] 71) = W21 := ⟨_, rfl⟩; have HI21 : Hid (RTI w5 W21 G (.slice Av ts.length cv) size nx ts) := (by rw [← hW21]; exact (HI9.out.below hb20).below ((Below.refl _ w20).alloc (Nat.le_refl _) _)); have hx21 : W21.heap[w20.heap.size]? = some (.cells #[.int .u8 (y : Int), .int .i64 (l : Int), .int .i64 (d : Int)] 71 (0, 0)) := (by rw [← hW21]; exact heap_alloc_new w20 _); have HW21 := Lib.hid hW21; clear hW21 hb20)
        rw [HW21.out]
        clear HW21 q0 q1 q2 s0 s1 s2
        obtain ⟨r0, r1, r2, r3, f0, f1, f2, f3⟩ := res_cells (HRW.out W21 HI21.out.bel)
        have hrt := HI21.out
        have HLN' := HLN.out
        obtain ⟨g0, g1, g2, g3, k0, k1, k2⟩ := rti_cells hrt
        rw [HLN'] at g0
        have p0 : W21.cell? ⟨w20.heap.size, 0, none⟩ = some (.int .u8 (y : Int)) := cell_of_row _ _ 0 _ _ _ hx21
        have p1 : W21.cell? ⟨w20.heap.size, 1, none⟩ = some (.int .i64 (l : Int)) := cell_of_row _ _ 1 _ _ _ hx21
        have p2' : W21.cell? ⟨w20.heap.size, 2, none⟩ = some (.int .i64 (d : Int)) := cell_of_row _ _ 2 _ _ _ hx21
        clear hrt hx21 HLN'
        by_cases hdd : size < d
        · have HTQ : Hid (T = (3, [], 0)) := by show _ = _; rw [HTL.out, if_pos hdd]
          have u2 : decide ((size : Int) < (d : Int)) = true := decide_eq_true (by omega)
          have u2n : decide (size < d) = true := decide_eq_true hdd
          clear hdd
          go_wp2
          refine bodyPost_ret (v := .agg #[.slice none 0 0, .int .i64 0, .int .i64 0, .int .i64 3]) ?_ rfl (RtQ.err HTQ.out (by decide) HRR.out (HBW.out W21 HI21.out.bel) _ _ _ _)
          rw [results_cell1 rfl]
          go_simp
          try rfl
        rw [if_neg hdd] at HTL
        have u2 : decide ((size : Int) < (d : Int)) = false := decide_eq_false (by omega)
        have u2n : decide (size < d) = false := decide_eq_false hdd
        clear hdd
        by_cases hl0 : l = 0
        · have u3 : ((l : Int) == 0) = true := by simp; omega
          have hmx : max l 1 = 1 := by omega
          rw [hmx] at HTL
          have HL0 := Lib.hid hl0
          clear hl0 hmx
          by_cases hbm : most < (size : Int)
          · have HTQ : Hid (T = (5, [], 0)) := by show _ = _; rw [HTL.out, if_pos (by omega)]
            have u4 : decide (most < (size : Int)) = true := decide_eq_true hbm
            clear hbm
            go_wp2
            refine bodyPost_ret (v := .agg #[.slice none 0 0, .int .i64 0, .int .i64 0, .int .i64 5]) ?_ rfl (RtQ.err HTQ.out (by decide) HRR.out (HBW.out W21 HI21.out.bel) _ _ _ _)
            rw [results_cell1 rfl]
            go_simp
            try rfl
          have u4 : decide (most < (size : Int)) = false := decide_eq_false hbm
          have hwr : IntKind.i64.wrap (most - (size : Int)) = most - (size : Int) := IntWalk.i64_in _ (by omega)
          by_cases hbig : most - (size : Int) < 1
          · have HTQ : Hid (T = (5, [], 0)) := by show _ = _; rw [HTL.out, if_pos (by first | exact hbig | omega)]
            have u5 : decide (most - (size : Int) < 1) = true := decide_eq_true hbig
            clear hbm hbig
            go_wp2
            refine bodyPost_ret (v := .agg #[.slice none 0 0, .int .i64 0, .int .i64 0, .int .i64 5]) ?_ rfl (RtQ.err HTQ.out (by decide) HRR.out (HBW.out W21 HI21.out.bel) _ _ _ _)
            rw [results_cell1 rfl]
            go_simp
            try rfl
          · have HTQ : Hid (T = blkL F z1 z2 L most j (ts ++ [(UInt8.ofNat y, l, d)]) (size + 1) nx) := by show _ = _; rw [HTL.out, if_neg (by first | exact hbig | omega)]
            have u5 : decide (most - (size : Int) < 1) = false := decide_eq_false hbig
            have hsm2 : ((size + 1 : Nat) : Int) ≤ most := by omega
            have HFM : Hid ((ts ++ [(UInt8.ofNat y, l, d)]).flatMap tcC = ts.flatMap tcC ++ [.int .u8 (y : Int), .int .i64 (l : Int), .int .i64 (d : Int)]) := by show _ = _; rw [List.flatMap_append]; simp only [List.flatMap_cons, List.flatMap_nil, List.append_nil, tcC, HYY.out]
            have HFL : Hid ((ts ++ [(UInt8.ofNat y, l, d)]).length = ll + 1) := by show _ = _; rw [List.length_append, HLN.out]; rfl
            have HSZ2 : Hid (size + 1 = szs (ts ++ [(UInt8.ofNat y, l, d)])) := by show _ = _; rw [szs_snoc, ← HSZ.out]; congr 1; have := HL0.out; show _ = max l 1; omega
            have hll6 : ll ≤ 1000000 := by omega
            have HROW : Hid (W21.ownsRow (G + 1) 71 3 (.slice Av ll cv) ll (ts.flatMap tcC)) := by have h := HI21.out.row; rw [HLN.out] at h; exact h
            have hG21 := HI21.out.lt
            clear hbm hbig
            go_wp2_with (at_builtin; refine wpList_app (W21.alloc (.cells #[.int .u8 (y : Int), .int .i64 (l : Int), .int .i64 (d : Int)] 71)) tcElem rfl (.tmp 149) (.tmp 151) rfl (G + 1) (.slice Av ll cv) ll (ts.flatMap tcC) rfl (HROW.out.alloc _) (W21.heap.size + 1) (some ⟨W21.heap.size, 0, none⟩) 1 1 [.int .u8 (y : Int), .int .i64 (l : Int), .int .i64 (d : Int)] rfl rfl (cells3_one W21 _ _ _ _) (by simp [Value.oneCell']) (by unfold maxLen; omega) (by omega) (by simp; omega) ?_; intro A7 c7 w22 hA; have HA7 := Lib.hid hA; have hbx := (Mod.of_app hA).keep ((HI21.out.below ((Below.refl _ W21).alloc (Nat.le_refl _) (.cells #[.int .u8 (y : Int), .int .i64 (l : Int), .int .i64 (d : Int)] 71))).box) (fun hk => by have := own_base HROW.out _ hk; omega); have g0' : w22.cell? ⟨G, 0, none⟩ = some (.slice Av ts.length cv) := cell_of_row _ _ 0 _ _ _ hbx; have g1' : w22.cell? ⟨G, 1, none⟩ = some (.int .i64 (size : Int)) := cell_of_row _ _ 1 _ _ _ hbx; have k0' : w22.frozen? ⟨G, 0, none⟩ = false := frozen_of_row _ _ 0 _ _ hbx; have k1' : w22.frozen? ⟨G, 1, none⟩ = false := frozen_of_row _ _ 1 _ _ hbx; clear hA hbx)
            have HI22 := Lib.hid ((HI21.out.below ((Below.refl _ W21).alloc (Nat.le_refl _) (.cells #[.int .u8 (y : Int), .int .i64 (l : Int), .int .i64 (d : Int)] 71))).more (ts' := ts ++ [(UInt8.ofNat y, l, d)]) (by rw [HLN.out]; exact HA7.out) HFL.out.symm HFM.out.symm (size + 1))
            go_roundg j
            case measure => omega
            case rel =>
              refine ⟨ts ++ [(UInt8.ofNat y, l, d)], size + 1, nx, A7, c7, HTQ.out, hnx, hfu2, .inr hsm2, HSZ2.out, by rw [HFL.out]; exact hpr, by rw [HFL.out]; omega, ?_⟩
              have h := HI22.out
              rw [HFL.out]
              push_cast at h
              exact h
        · have u3 : ((l : Int) == 0) = false := by simp; omega
          have hmx : max l 1 = l := by omega
          rw [hmx] at HTL
          clear hmx
          by_cases hbm : most < (size : Int)
          · have HTQ : Hid (T = (5, [], 0)) := by show _ = _; rw [HTL.out, if_pos (by omega)]
            have u4 : decide (most < (size : Int)) = true := decide_eq_true hbm
            clear hbm
            go_wp2
            refine bodyPost_ret (v := .agg #[.slice none 0 0, .int .i64 0, .int .i64 0, .int .i64 5]) ?_ rfl (RtQ.err HTQ.out (by decide) HRR.out (HBW.out W21 HI21.out.bel) _ _ _ _)
            rw [results_cell1 rfl]
            go_simp
            try rfl
          have u4 : decide (most < (size : Int)) = false := decide_eq_false hbm
          have hwr : IntKind.i64.wrap (most - (size : Int)) = most - (size : Int) := IntWalk.i64_in _ (by omega)
          by_cases hbig : most - (size : Int) < (l : Int)
          · have HTQ : Hid (T = (5, [], 0)) := by show _ = _; rw [HTL.out, if_pos (by first | exact hbig | omega)]
            have u5 : decide (most - (size : Int) < (l : Int)) = true := decide_eq_true hbig
            clear hbm hbig
            go_wp2
            refine bodyPost_ret (v := .agg #[.slice none 0 0, .int .i64 0, .int .i64 0, .int .i64 5]) ?_ rfl (RtQ.err HTQ.out (by decide) HRR.out (HBW.out W21 HI21.out.bel) _ _ _ _)
            rw [results_cell1 rfl]
            go_simp
            try rfl
          · have HTQ : Hid (T = blkL F z1 z2 L most j (ts ++ [(UInt8.ofNat y, l, d)]) (size + l) nx) := by show _ = _; rw [HTL.out, if_neg (by first | exact hbig | omega)]
            have u5 : decide (most - (size : Int) < (l : Int)) = false := decide_eq_false hbig
            have hsm2 : ((size + l : Nat) : Int) ≤ most := by omega
            have HFM : Hid ((ts ++ [(UInt8.ofNat y, l, d)]).flatMap tcC = ts.flatMap tcC ++ [.int .u8 (y : Int), .int .i64 (l : Int), .int .i64 (d : Int)]) := by show _ = _; rw [List.flatMap_append]; simp only [List.flatMap_cons, List.flatMap_nil, List.append_nil, tcC, HYY.out]
            have HFL : Hid ((ts ++ [(UInt8.ofNat y, l, d)]).length = ll + 1) := by show _ = _; rw [List.length_append, HLN.out]; rfl
            have HSZ2 : Hid (size + l = szs (ts ++ [(UInt8.ofNat y, l, d)])) := by show _ = _; rw [szs_snoc, ← HSZ.out]; congr 1; show _ = max l 1; omega
            have hll6 : ll ≤ 1000000 := by omega
            have HROW : Hid (W21.ownsRow (G + 1) 71 3 (.slice Av ll cv) ll (ts.flatMap tcC)) := by have h := HI21.out.row; rw [HLN.out] at h; exact h
            have hG21 := HI21.out.lt
            clear hbm hbig
            go_wp2_with (at_builtin; refine wpList_app (W21.alloc (.cells #[.int .u8 (y : Int), .int .i64 (l : Int), .int .i64 (d : Int)] 71)) tcElem rfl (.tmp 149) (.tmp 151) rfl (G + 1) (.slice Av ll cv) ll (ts.flatMap tcC) rfl (HROW.out.alloc _) (W21.heap.size + 1) (some ⟨W21.heap.size, 0, none⟩) 1 1 [.int .u8 (y : Int), .int .i64 (l : Int), .int .i64 (d : Int)] rfl rfl (cells3_one W21 _ _ _ _) (by simp [Value.oneCell']) (by unfold maxLen; omega) (by omega) (by simp; omega) ?_; intro A7 c7 w22 hA; have HA7 := Lib.hid hA; have hbx := (Mod.of_app hA).keep ((HI21.out.below ((Below.refl _ W21).alloc (Nat.le_refl _) (.cells #[.int .u8 (y : Int), .int .i64 (l : Int), .int .i64 (d : Int)] 71))).box) (fun hk => by have := own_base HROW.out _ hk; omega); have g0' : w22.cell? ⟨G, 0, none⟩ = some (.slice Av ts.length cv) := cell_of_row _ _ 0 _ _ _ hbx; have g1' : w22.cell? ⟨G, 1, none⟩ = some (.int .i64 (size : Int)) := cell_of_row _ _ 1 _ _ _ hbx; have k0' : w22.frozen? ⟨G, 0, none⟩ = false := frozen_of_row _ _ 0 _ _ hbx; have k1' : w22.frozen? ⟨G, 1, none⟩ = false := frozen_of_row _ _ 1 _ _ hbx; clear hA hbx)
            have HI22 := Lib.hid ((HI21.out.below ((Below.refl _ W21).alloc (Nat.le_refl _) (.cells #[.int .u8 (y : Int), .int .i64 (l : Int), .int .i64 (d : Int)] 71))).more (ts' := ts ++ [(UInt8.ofNat y, l, d)]) (by rw [HLN.out]; exact HA7.out) HFL.out.symm HFM.out.symm (size + l))
            go_roundg j
            case measure => omega
            case rel =>
              refine ⟨ts ++ [(UInt8.ofNat y, l, d)], size + l, nx, A7, c7, HTQ.out, hnx, hfu2, .inr hsm2, HSZ2.out, by rw [HFL.out]; exact hpr, by rw [HFL.out]; omega, ?_⟩
              have h := HI22.out
              rw [HFL.out]
              push_cast at h
              exact h
end Go.Proofs.YtkikgidmioofaaaGreat
/- Layer 14, plainly: tokens of a block that was taken are expanded, and to as many bytes. -/
namespace Go.Proofs.YtkikgidmioofaaaGreat
open BitsP SymP

theorem expE_app {most : Int} : ∀ (L1 L2 : List Ti) (out o1 : List UInt8), expE most L1 out = (0, o1) → expE most (L1 ++ L2) out = expE most L2 o1
  | [], L2, out, o1, h => by
    rw [expE] at h
    rw [List.nil_append, ← (Prod.mk.inj h).2]
  | t :: L1, L2, out, o1, h => by
    rw [expE] at h
    rw [List.cons_append, expE]
    split at h
    · cases (Prod.mk.inj h).1
    · rename_i h1
      split at h
      · cases (Prod.mk.inj h).1
      · rename_i h2
        rw [if_neg h1, if_neg h2]
        exact expE_app L1 L2 _ o1 h
theorem ti_szT (t : Tk) : szT (ti t) = (max t.2.1 1 : Nat) := by
  unfold szT ti
  dsimp only
  split <;> omega
theorem joinR_okX {n1 b1 : Int} {x1 : Nat} {n2 b2 : Int} {x2 : Nat} {m : Bool} {y l d : Nat} (h : joinR n1 b1 x1 n2 b2 x2 m = some (y, l, d)) : okX (ti (UInt8.ofNat y, l, d)) = true := by
  unfold joinR at h
  split at h
  · split at h
    · simp only [Option.some.injEq, Prod.mk.injEq] at h
      obtain ⟨_, rfl, rfl⟩ := h
      rfl
    · cases h
  · split at h
    · rename_i hc
      simp only [Option.some.injEq, Prod.mk.injEq] at h
      obtain ⟨rfl, rfl, rfl⟩ := h
      have h1 : vN (n1 - 257) b1 x1 < 256 := valC_low (by omega)
      have h2 := vN_lt n2 b2 x2
      unfold okX ti
      dsimp only
      rw [if_neg (by omega)]
      simp
      omega
    · cases h
theorem blkL_exp {F : List Int → List Bool → Int × Int × Nat} {z1 z2 : List Int} {L : List Bool} {most : Int} : ∀ (k : Nat) (pre : List Tk) (size p : Nat) (ts : List Tk) (q : Nat), blkL F z1 z2 L most k pre size p = (0, ts, q) →
    (∃ out, expE most (pre.map ti) [] = (0, out) ∧ out.length = size) → size = szs pre → ∃ out, expE most (ts.map ti) [] = (0, out) ∧ out.length = szs ts
  | 0, pre, size, p, ts, q, h, _, _ => by
    rw [blkL] at h
    cases (Prod.mk.inj h).1
  | k + 1, pre, size, p, ts, q, h, ⟨out, ho, hl⟩, hs => by
    rw [blkL] at h
    split at h
    · rename_i h1
      exact absurd (Prod.mk.inj h).1 h1
    split at h
    · have h2 := (Prod.mk.inj (Prod.mk.inj h).2).1
      subst h2
      exact ⟨out, ho, by rw [hl, hs]⟩
    split at h
    · rename_i h1
      exact absurd (Prod.mk.inj h).1 h1.2
    split at h
    · cases (Prod.mk.inj h).1
    · rename_i y l d hj
      split at h
      · cases (Prod.mk.inj h).1
      rename_i hd
      split at h
      · cases (Prod.mk.inj h).1
      rename_i hm
      have hok : okX (ti (UInt8.ofNat y, l, d)) = true := by
        split at hj
        · exact joinR_okX hj
        · exact joinR_okX hj
      have hsz := ti_szT (UInt8.ofNat y, l, d)
      dsimp only at hsz
      refine blkL_exp k (pre ++ [(UInt8.ofNat y, l, d)]) (size + max l 1) _ ts q h ⟨putT (ti (UInt8.ofNat y, l, d)) out, ?_, ?_⟩ ?_
      · rw [List.map_append, expE_app _ _ _ _ ho]
        show expE most [ti (UInt8.ofNat y, l, d)] out = _
        rw [expE, if_neg (by rw [hok]; simp; show ((d : Nat) : Int) ≤ (out.length : Int); omega), if_neg (by rw [hsz, hl]; omega), expE]
      · have h3 := putT_len out hok
        rw [hsz, hl] at h3
        omega
      · rw [szs_snoc, ← hs]
theorem blkF_exp {F : List Int → List Bool → Int × Int × Nat} {L : List Bool} {p : Nat} {most : Int} {ts : List Tk} {q : Nat} (h : blkF F L p most = (0, ts, q)) : ∃ out, expE most (ts.map ti) [] = (0, out) ∧ out.length = szs ts := by
  unfold blkF at h
  split at h
  · rename_i h1
    exact absurd (Prod.mk.inj h).1 h1
  split at h
  · rename_i h1
    exact absurd (Prod.mk.inj h).1 h1
  split at h
  · cases (Prod.mk.inj h).1
  split at h
  · cases (Prod.mk.inj h).1
  exact blkL_exp _ [] 0 _ ts q h ⟨[], rfl, rfl⟩ rfl
end Go.Proofs.YtkikgidmioofaaaGreat
/- Layer 13: how often symbols are there. -/
namespace Go.Proofs.YtkikgidmioofaaaGreat
open Go.RowKit BitsP SymP

/-- A token's symbols, of the program. -/
theorem splitT_any (t : Tk) (w : World) (h : okT t) :
    Calls Tryz.prog 39 #[.agg #[.int .u8 (t.1.toNat : Int), .int .i64 (t.2.1 : Int), .int .i64 (t.2.2 : Int)]] w fun e w' => e = .returned (.tuple #[agR ((cls1 t).1 : Nat) ((cls1 t).2.1 : Nat) ((cls1 t).2.2 : Nat) ((cls2 t).1 : Nat) ((cls2 t).2.1 : Nat) ((cls2 t).2.2 : Nat) (isM t), .bool true]) ∧ Below w.heap.size w w' := by
  obtain ⟨y, l, d⟩ := t
  rcases h with ⟨h1, h2⟩ | ⟨h1, h2, h3, h4, h5⟩
  · dsimp only at h1 h2
    subst h1 h2
    have e1 : cls1 (y, 0, 0) = (y.toNat, 0, 0) := by unfold cls1; rw [if_pos rfl]
    have e2 : cls2 (y, 0, 0) = (0, 0, 0) := by unfold cls2; rw [if_pos rfl]
    have e3 : isM (y, 0, 0) = false := by unfold isM; simp
    rw [e1, e2, e3]
    exact split_byte y.toNat w y.toNat_lt
  · dsimp only at h1 h2 h3 h4 h5
    subst h5
    obtain ⟨l', rfl⟩ : ∃ l', l = l' + 3 := ⟨l - 3, by omega⟩
    obtain ⟨d', rfl⟩ : ∃ d', d = d' + 1 := ⟨d - 1, by omega⟩
    have e1 : cls1 (0, l' + 3, d' + 1) = (classC l' + 257, bitsC (classC l'), l' % 2 ^ bitsC (classC l')) := by unfold cls1; rw [if_neg (by dsimp only; omega)]; rfl
    have e2 : cls2 (0, l' + 3, d' + 1) = (classC d', bitsC (classC d'), d' % 2 ^ bitsC (classC d')) := by unfold cls2; rw [if_neg (by dsimp only; omega)]; rfl
    have e3 : isM (0, l' + 3, d' + 1) = true := by unfold isM; simp
    rw [e1, e2, e3]
    exact split_match l' d' w (by omega) (by omega)
/-- Tokens in memory, and what stands behind them. -/
def TkAt (w : World) (A : Option Addr) (k : Nat) (y l d : Int) : Prop := ∃ b o, A = some ⟨b, o, none⟩ ∧ b < w.heap.size ∧ w.cell? ⟨b, o + k * 3, none⟩ = some (.int .u8 y) ∧ w.cell? ⟨b, o + k * 3 + 1, none⟩ = some (.int .i64 l) ∧ w.cell? ⟨b, o + k * 3 + 2, none⟩ = some (.int .i64 d)
theorem TkAt.below {w W : World} {A : Option Addr} {k : Nat} {y l d : Int} (h : TkAt w A k y l d) (hb : Below w.heap.size w W) : TkAt W A k y l d := by
  obtain ⟨b, o, h1, h2, h3, h4, h5⟩ := h
  exact ⟨b, o, h1, Nat.lt_of_lt_of_le h2 hb.size, (hb.cell (p := ⟨b, o + k * 3, none⟩) h2).trans h3, (hb.cell (p := ⟨b, o + k * 3 + 1, none⟩) h2).trans h4, (hb.cell (p := ⟨b, o + k * 3 + 2, none⟩) h2).trans h5⟩
set_option maxRecDepth 100000 in
set_option maxHeartbeats 4000000 in
theorem weights_gen (A : Option Addr) (l c : Nat) (ts : List Tk) (w : World) (hm : l ≤ 65536) (hk : ∀ t ∈ ts, okT t) (hc : ∀ k t, ts[k]? = some t → TkAt w A k (t.1.toNat : Int) (t.2.1 : Int) (t.2.2 : Int)) (hend : ts.length = l ∨ (ts.length < l ∧ ∃ y ln d, TkAt w A ts.length y ln d ∧ rightT y ln d = false)) :
    Calls Tryz.prog 37 #[.slice A l c] w fun e w' => Below w.heap.size w w' ∧ ((ts.length < l ∧ e = .returned (.tuple #[.slice none 0 0, .slice none 0 0, .bool false])) ∨
      (ts.length = l ∧ ∃ g1 g2, e = .returned (.tuple #[.slice (some ⟨g1, 0, none⟩) 273 273, .slice (some ⟨g2, 0, none⟩) 30 30, .bool true]) ∧ NB w' g1 (wt1 ts) ∧ NB w' g2 (wt2 ts) ∧ w.heap.size ≤ g1 ∧ w.heap.size ≤ g2)) := by
  obtain ⟨n, hn⟩ : ∃ n, ts.length = n := ⟨_, rfl⟩
  have HN := Lib.hid hn
  have HK := Lib.hid hk
  have HC := Lib.hid hc
  rw [hn] at hend ⊢
  have HEND := Lib.hid hend
  have hnl : n ≤ l := by rcases hend with h | ⟨h, _⟩ <;> omega
  have mk1 : ∀ W, (Instr.makeSlice 65 (.int .i64 273) (.int .i64 273)).run Tryz.prog W = .ok (.slice (some ⟨W.heap.size, 0, none⟩) 273 273) (W.alloc (.cells (madeCells #[.int .i64 0] 273) 3)) := fun W => make_ints 273 (by omega) W
  have mk2 : ∀ W, (Instr.makeSlice 65 (.int .i64 30) (.int .i64 30)).run Tryz.prog W = .ok (.slice (some ⟨W.heap.size, 0, none⟩) 30 30) (W.alloc (.cells (madeCells #[.int .i64 0] 30) 3)) := fun W => make_ints 30 (by omega) W
  clear hk hc hend hn
  go_enter Tryz.func37, Tryz.ntmps37
  go_upto_region 3 with fail
  go_region
  · have HZ1 : Hid (NB (((w.alloc (.cells (madeCells #[.int .i64 0] 273) 3)).alloc (.cells (madeCells #[.int .i64 0] 30) 3)).drew) w.heap.size (incW (List.replicate 273 0) (fsts (ts.take 0)))) := ((wei_made w 273).below (B := (w.alloc (.cells (madeCells #[.int .i64 0] 273) 3)).heap.size) (((Below.refl _ _).alloc (Nat.le_refl _) _).drew) (by simp))
    have HZ2 : Hid (NB (((w.alloc (.cells (madeCells #[.int .i64 0] 273) 3)).alloc (.cells (madeCells #[.int .i64 0] 30) 3)).drew) (w.heap.size + 1) (incW (List.replicate 30 0) (mts (ts.take 0)))) := (by have h := wei_made (w.alloc (.cells (madeCells #[.int .i64 0] 273) 3)) 30; rw [World.size_alloc] at h; exact h)
    have HB0 : Hid (Below w.heap.size w (((w.alloc (.cells (madeCells #[.int .i64 0] 273) 3)).alloc (.cells (madeCells #[.int .i64 0] 30) 3)).drew)) := (((Below.refl w.heap.size w).alloc (Nat.le_refl _) _).alloc (by simp) _).drew
    obtain ⟨W0, hW0⟩ : ∃ W0, ((w.alloc (.cells (madeCells #[.int .i64 0] 273) 3)).alloc (.cells (madeCells #[.int .i64 0] 30) 3)).drew = W0 := ⟨_, rfl⟩
    rw [hW0] at HZ1 HZ2 HB0 ⊢
    clear hW0 mk1 mk2
    go_wp2
    go_loopg [2, 3, 5, 17] l (fun gk s2 s3 m5 i wr => s2 = .slice (some ⟨w.heap.size, 0, none⟩) 273 273 ∧ s3 = .slice (some ⟨(w.heap.size + 1), 0, none⟩) 30 30 ∧ ∃ k : Nat, k + gk = l ∧ i = .int .i64 (k : Int) ∧ k ≤ n ∧ m5 = .int .i64 ((mts (ts.take k)).length : Nat) ∧ NB wr w.heap.size (incW (List.replicate 273 0) (fsts (ts.take k))) ∧ NB wr (w.heap.size + 1) (incW (List.replicate 30 0) (mts (ts.take k))) ∧ Below w.heap.size w wr)
    case atStart => exact ⟨rfl, rfl, 0, by omega, rfl, Nat.zero_le _, rfl, HZ1.out, HZ2.out, HB0.out⟩
    case round =>
      obtain ⟨rfl, rfl, k, hkg, rfl, hkn, rfl, hn1, hn2, hbel⟩ := hrel
      have HNB1 := Lib.hid hn1
      have HNB2 := Lib.hid hn2
      have HBEL := Lib.hid hbel
      clear hn1 hn2 hbel HZ1 HZ2 HB0
      have hml := mts_len (ts.take k)
      rw [List.length_take] at hml
      obtain ⟨mc, hmc⟩ : ∃ mc, (mts (ts.take k)).length = mc := ⟨_, rfl⟩
      have HMC := Lib.hid hmc
      rw [hmc] at hml ⊢
      clear hmc
      by_cases hkl : k < n
      · obtain ⟨t, ht⟩ : ∃ t, ts[k]? = some t := ⟨_, List.getElem?_eq_getElem (by rw [HN.out]; exact hkl)⟩
        have hok := HK.out t (List.mem_of_getElem? ht)
        have HSP := Lib.hid (fun W => splitT_any t W hok)
        have hc1 := cls1_lt hok
        have hc2 := cls2_lt hok
        have HTK : Hid (ts.take (k + 1) = ts.take k ++ [t]) := by show _ = _; rw [List.take_add_one, ht]; rfl
        have HF : Hid (fsts (ts.take (k + 1)) = fsts (ts.take k) ++ [(cls1 t).1]) := by show _ = _; rw [HTK.out, fsts_snoc]
        have HMT : Hid (mts (ts.take (k + 1)) = if isM t then mts (ts.take k) ++ [(cls2 t).1] else mts (ts.take k)) := by show _ = _; rw [HTK.out, mts_snoc]
        obtain ⟨b, o, rfl, hbB, v0, v1, v2⟩ := (HC.out k t ht).below HBEL.out
        have k1 : l ≤ 65536 := hm
        have HA1 : Hid ((incW (List.replicate 273 0) (fsts (ts.take k)))[(cls1 t).1]? = some ((fsts (ts.take k)).count (cls1 t).1)) := incW_at 273 _ hc1.1
        have HA2 : Hid ((incW (List.replicate 30 0) (mts (ts.take k)))[(cls2 t).1]? = some ((mts (ts.take k)).count (cls2 t).1)) := incW_at 30 _ hc2.1
        have HU1 : Hid (incW (List.replicate 273 0) (fsts (ts.take (k + 1))) = (incW (List.replicate 273 0) (fsts (ts.take k))).set (cls1 t).1 ((fsts (ts.take k)).count (cls1 t).1 + 1)) := by
          show _ = _
          rw [HF.out, incW_append, incW_cons, List.getD, HA1.out]
          rfl
        have HU2 : Hid (incW (List.replicate 30 0) (mts (ts.take k) ++ [(cls2 t).1]) = (incW (List.replicate 30 0) (mts (ts.take k))).set (cls2 t).1 ((mts (ts.take k)).count (cls2 t).1 + 1)) := by
          show _ = _
          rw [incW_append, incW_cons, List.getD, HA2.out]
          rfl
        have hcn1 : (fsts (ts.take k)).count (cls1 t).1 ≤ 65536 := by
          have h := List.count_le_length (a := (cls1 t).1) (l := fsts (ts.take k))
          rw [fsts_len, List.length_take] at h
          omega
        have hcn2 : (mts (ts.take k)).count (cls2 t).1 ≤ 65536 := by
          have h := List.count_le_length (a := (cls2 t).1) (l := mts (ts.take k))
          rw [HMC.out] at h
          omega
        obtain ⟨l1, hl1⟩ : ∃ l1, incW (List.replicate 273 0) (fsts (ts.take k)) = l1 := ⟨_, rfl⟩
        obtain ⟨l2, hl2⟩ : ∃ l2, incW (List.replicate 30 0) (mts (ts.take k)) = l2 := ⟨_, rfl⟩
        have HL2 := Lib.hid hl2
        rw [hl1] at HNB1 HA1 HU1
        rw [hl2] at HNB2 HA2 HU2
        obtain ⟨a1, ha1⟩ : ∃ a1, (fsts (ts.take k)).count (cls1 t).1 = a1 := ⟨_, rfl⟩
        obtain ⟨a2, ha2⟩ : ∃ a2, (mts (ts.take k)).count (cls2 t).1 = a2 := ⟨_, rfl⟩
        rw [ha1] at HA1 HU1 hcn1
        rw [ha2] at HA2 HU2 hcn2
        obtain ⟨⟨n1, b1, x1⟩, hq1⟩ : ∃ q, cls1 t = q := ⟨_, rfl⟩
        obtain ⟨⟨n2, b2, x2⟩, hq2⟩ : ∃ q, cls2 t = q := ⟨_, rfl⟩
        rw [hq1] at HSP HA1 HU1 hc1
        rw [hq2] at HSP HA2 HU2 hc2 HMT
        obtain ⟨m, hmm⟩ : ∃ m, isM t = m := ⟨_, rfl⟩
        rw [hmm] at HSP HMT
        dsimp only at HSP HA1 HU1 HA2 HU2 HMT hc1 hc2
        have hn273 := hc1.1
        have hn30 := hc2.1
        clear ht hok hl1 hl2 ha1 ha2 hq1 hq2 hmm hc1 hc2
        cases m with
        | true =>
          go_upto_region 9 with (go_at_call 39; refine (HSP.out _).mono ?_; rintro e w4 ⟨rfl, hb4⟩; unfold agR; have hb5 := ((Below.refl wr.heap.size wr).alloc (Nat.le_refl _) (.cells #[.int .u8 (t.1.toNat : Int), .int .i64 (t.2.1 : Int), .int .i64 (t.2.2 : Int)] 71)).trans (hb4.mono (by simp)); obtain ⟨W5, hW5⟩ : ∃ W5, w4.alloc (.cells #[.int .i64 (n1 : Int), .int .i64 (b1 : Int), .int .u32 (x1 : Int), .int .i64 (n2 : Int), .int .i64 (b2 : Int), .int .u32 (x2 : Int), .bool true] 75) = W5 := ⟨_, rfl⟩; have hb6 : Below wr.heap.size wr W5 := (by rw [← hW5]; exact hb5.alloc hb5.size _); have hx5 : W5.heap[w4.heap.size]? = some (.cells #[.int .i64 (n1 : Int), .int .i64 (b1 : Int), .int .u32 (x1 : Int), .int .i64 (n2 : Int), .int .i64 (b2 : Int), .int .u32 (x2 : Int), .bool true] 75 (0, 0)) := (by rw [← hW5]; exact heap_alloc_new w4 _); have hs4 : wr.heap.size ≤ w4.heap.size := hb5.size; have HW5 := Lib.hid hW5; clear hW5 hb4 hb5)
          rw [HW5.out]
          have HB5 := Lib.hid hb6
          have HN5 := Lib.hid (HNB1.out.below hb6 HNB1.out.lt)
          have HM5 := Lib.hid (HNB2.out.below hb6 HNB2.out.lt)
          have r0 : W5.cell? ⟨w4.heap.size, 0, none⟩ = some (.int .i64 (n1 : Int)) := cell_of_row _ _ 0 _ _ _ hx5
          have q1 : W5.cell? ⟨w.heap.size, n1, none⟩ = some (.int .i64 (a1 : Int)) := HN5.out.cell HA1.out
          have f1 : W5.frozen? ⟨w.heap.size, n1, none⟩ = false := HN5.out.free
          obtain ⟨W6, hW6⟩ : ∃ W6, W5.setCell ⟨w.heap.size, n1, none⟩ (.int .i64 ((a1 : Int) + 1)) = W6 := ⟨_, rfl⟩
          have hl1 : w.heap.size < wr.heap.size := HNB1.out.lt
          have hl2 : (w.heap.size + 1) < wr.heap.size := HNB2.out.lt
          have hx6 : W6.heap[w4.heap.size]? = some (.cells #[.int .i64 (n1 : Int), .int .i64 (b1 : Int), .int .u32 (x1 : Int), .int .i64 (n2 : Int), .int .i64 (b2 : Int), .int .u32 (x2 : Int), .bool true] 75 (0, 0)) := (by rw [← hW6]; exact (Below.heap_setCell _ _ _ _ (by show w4.heap.size ≠ w.heap.size; omega)).trans hx5)
          have r3 : W6.cell? ⟨w4.heap.size, 3, none⟩ = some (.int .i64 (n2 : Int)) := cell_of_row _ _ 3 _ _ _ hx6
          have r6 : W6.cell? ⟨w4.heap.size, 6, none⟩ = some (.bool true) := cell_of_row _ _ 6 _ _ _ hx6
          have HN6 : Hid (NB W6 w.heap.size (l1.set n1 (a1 + 1))) := (by show NB _ _ _; rw [← hW6]; have h := HN5.out.set n1 (a1 + 1); push_cast at h; exact h)
          have HM6 : Hid (NB W6 (w.heap.size + 1) l2) := (by show NB _ _ _; rw [← hW6]; exact (Below.heap_setCell _ _ _ _ (by show (w.heap.size + 1) ≠ w.heap.size; omega)).trans HM5.out)
          have q2 : W6.cell? ⟨(w.heap.size + 1), n2, none⟩ = some (.int .i64 (a2 : Int)) := HM6.out.cell HA2.out
          have f2 : W6.frozen? ⟨(w.heap.size + 1), n2, none⟩ = false := HM6.out.free
          have HB6 : Hid (Below w.heap.size w W6) := (by show Below _ _ _; rw [← hW6]; exact (HBEL.out.trans (HB5.out.mono HBEL.out.size)).setCell (by show w.heap.size ≤ w.heap.size; omega) _)
          clear hb6 hx5 hx6
          go_wp2
          go_roundg (gk - 1)
          case measure => omega
          case rel =>
            refine ⟨rfl, rfl, k + 1, by omega, by go_num, by omega, ?_, ?_, ?_, HB6.out.setCell (by show w.heap.size ≤ (w.heap.size + 1); omega) _⟩
            · rw [HMT.out, if_pos trivial, List.length_append, HMC.out, List.length_singleton]
              go_num
            · rw [HU1.out]
              exact (Below.heap_setCell _ _ _ _ (by show w.heap.size ≠ (w.heap.size + 1); omega)).trans HN6.out
            · rw [HMT.out, if_pos trivial, HU2.out]
              have h := HM6.out.set n2 (a2 + 1)
              push_cast at h
              exact h
        | false =>
          go_upto_region 9 with (go_at_call 39; refine (HSP.out _).mono ?_; rintro e w4 ⟨rfl, hb4⟩; unfold agR; have hb5 := ((Below.refl wr.heap.size wr).alloc (Nat.le_refl _) (.cells #[.int .u8 (t.1.toNat : Int), .int .i64 (t.2.1 : Int), .int .i64 (t.2.2 : Int)] 71)).trans (hb4.mono (by simp)); obtain ⟨W5, hW5⟩ : ∃ W5, w4.alloc (.cells #[.int .i64 (n1 : Int), .int .i64 (b1 : Int), .int .u32 (x1 : Int), .int .i64 (n2 : Int), .int .i64 (b2 : Int), .int .u32 (x2 : Int), .bool false] 75) = W5 := ⟨_, rfl⟩; have hb6 : Below wr.heap.size wr W5 := (by rw [← hW5]; exact hb5.alloc hb5.size _); have hx5 : W5.heap[w4.heap.size]? = some (.cells #[.int .i64 (n1 : Int), .int .i64 (b1 : Int), .int .u32 (x1 : Int), .int .i64 (n2 : Int), .int .i64 (b2 : Int), .int .u32 (x2 : Int), .bool false] 75 (0, 0)) := (by rw [← hW5]; exact heap_alloc_new w4 _); have hs4 : wr.heap.size ≤ w4.heap.size := hb5.size; have HW5 := Lib.hid hW5; clear hW5 hb4 hb5)
          rw [HW5.out]
          have HB5 := Lib.hid hb6
          have HN5 := Lib.hid (HNB1.out.below hb6 HNB1.out.lt)
          have HM5 := Lib.hid (HNB2.out.below hb6 HNB2.out.lt)
          have r0 : W5.cell? ⟨w4.heap.size, 0, none⟩ = some (.int .i64 (n1 : Int)) := cell_of_row _ _ 0 _ _ _ hx5
          have q1 : W5.cell? ⟨w.heap.size, n1, none⟩ = some (.int .i64 (a1 : Int)) := HN5.out.cell HA1.out
          have f1 : W5.frozen? ⟨w.heap.size, n1, none⟩ = false := HN5.out.free
          obtain ⟨W6, hW6⟩ : ∃ W6, W5.setCell ⟨w.heap.size, n1, none⟩ (.int .i64 ((a1 : Int) + 1)) = W6 := ⟨_, rfl⟩
          have hl1 : w.heap.size < wr.heap.size := HNB1.out.lt
          have hl2 : (w.heap.size + 1) < wr.heap.size := HNB2.out.lt
          have hx6 : W6.heap[w4.heap.size]? = some (.cells #[.int .i64 (n1 : Int), .int .i64 (b1 : Int), .int .u32 (x1 : Int), .int .i64 (n2 : Int), .int .i64 (b2 : Int), .int .u32 (x2 : Int), .bool false] 75 (0, 0)) := (by rw [← hW6]; exact (Below.heap_setCell _ _ _ _ (by show w4.heap.size ≠ w.heap.size; omega)).trans hx5)
          have r3 : W6.cell? ⟨w4.heap.size, 3, none⟩ = some (.int .i64 (n2 : Int)) := cell_of_row _ _ 3 _ _ _ hx6
          have r6 : W6.cell? ⟨w4.heap.size, 6, none⟩ = some (.bool false) := cell_of_row _ _ 6 _ _ _ hx6
          have HN6 : Hid (NB W6 w.heap.size (l1.set n1 (a1 + 1))) := (by show NB _ _ _; rw [← hW6]; have h := HN5.out.set n1 (a1 + 1); push_cast at h; exact h)
          have HM6 : Hid (NB W6 (w.heap.size + 1) l2) := (by show NB _ _ _; rw [← hW6]; exact (Below.heap_setCell _ _ _ _ (by show (w.heap.size + 1) ≠ w.heap.size; omega)).trans HM5.out)
          have q2 : W6.cell? ⟨(w.heap.size + 1), n2, none⟩ = some (.int .i64 (a2 : Int)) := HM6.out.cell HA2.out
          have f2 : W6.frozen? ⟨(w.heap.size + 1), n2, none⟩ = false := HM6.out.free
          have HB6 : Hid (Below w.heap.size w W6) := (by show Below _ _ _; rw [← hW6]; exact (HBEL.out.trans (HB5.out.mono HBEL.out.size)).setCell (by show w.heap.size ≤ w.heap.size; omega) _)
          clear hb6 hx5 hx6
          go_wp2
          go_roundg (gk - 1)
          case measure => omega
          case rel =>
            refine ⟨rfl, rfl, k + 1, by omega, by go_num, by omega, ?_, ?_, ?_, HB6.out⟩
            · rw [HMT.out, if_neg (by simp), HMC.out]
            · rw [HU1.out]
              exact HN6.out
            · rw [HMT.out, if_neg (by simp), HL2.out]
              exact HM6.out
      · obtain rfl : k = n := by omega
        rw [show ts.take k = ts from List.take_of_length_le (by rw [HN.out]; exact Nat.le_refl _)] at HNB1 HNB2 HMC
        by_cases hlast : k < l
        · obtain ⟨y, ln, d, hta, hrt⟩ : ∃ y ln d, TkAt w A k y ln d ∧ rightT y ln d = false := by
            rcases HEND.out with h | ⟨_, h⟩
            · omega
            · exact h
          obtain ⟨b, o, rfl, hbB, v0, v1, v2⟩ := hta.below HBEL.out
          have HSP := Lib.hid (fun W => split_no y ln d W hrt)
          clear hta hrt
          go_wp2_with (go_at_call 39; refine (HSP.out _).mono ?_; rintro e w4 ⟨rfl, hb4⟩; unfold agR; have hb5 := ((Below.refl wr.heap.size wr).alloc (Nat.le_refl _) (.cells #[.int .u8 y, .int .i64 ln, .int .i64 d] 71)).trans (hb4.mono (by simp)); have HB5 := Lib.hid (HBEL.out.trans (hb5.mono HBEL.out.size)); clear hb4 hb5)
          refine bodyPost_ret (results_tmp3 rfl _ _ _) rfl ⟨HB5.out.alloc HB5.out.size _, .inl ⟨hlast, rfl⟩⟩
        · obtain rfl : k = l := by omega
          have hq256 : (incW (List.replicate 273 0) (fsts ts))[256]? = some ((fsts ts).count 256) := incW_at 273 _ (by decide)
          have HW1 : Hid (wt1 ts = (incW (List.replicate 273 0) (fsts ts)).set 256 ((fsts ts).count 256 + 1)) := by
            show _ = _
            rw [wt1, incW_append, incW_cons, List.getD, hq256]
            rfl
          have hcn1 : (fsts ts).count 256 ≤ 65536 := by
            have h := List.count_le_length (a := 256) (l := fsts ts)
            rw [fsts_len, HN.out] at h
            omega
          obtain ⟨l1, hl1⟩ : ∃ l1, incW (List.replicate 273 0) (fsts ts) = l1 := ⟨_, rfl⟩
          obtain ⟨a1, ha1⟩ : ∃ a1, (fsts ts).count 256 = a1 := ⟨_, rfl⟩
          rw [hl1] at HNB1 hq256 HW1
          rw [ha1] at hq256 HW1 hcn1
          have q1 : wr.cell? ⟨w.heap.size, 256, none⟩ = some (.int .i64 (a1 : Int)) := HNB1.out.cell hq256
          have f1 : wr.frozen? ⟨w.heap.size, 256, none⟩ = false := HNB1.out.free
          obtain ⟨W6, hW6⟩ : ∃ W6, wr.setCell ⟨w.heap.size, 256, none⟩ (.int .i64 ((a1 : Int) + 1)) = W6 := ⟨_, rfl⟩
          have HN6 : Hid (NB W6 w.heap.size (wt1 ts)) := by
            show NB _ _ _
            rw [← hW6, HW1.out]
            have h := HNB1.out.set 256 (a1 + 1)
            push_cast at h
            exact h
          have HM6 : Hid (NB W6 (w.heap.size + 1) (incW (List.replicate 30 0) (mts ts))) := by
            show NB _ _ _
            rw [← hW6]
            exact (Below.heap_setCell _ _ _ _ (by show (w.heap.size + 1) ≠ w.heap.size; omega)).trans HNB2.out
          have HB6 : Hid (Below w.heap.size w W6) := by
            show Below _ _ _
            rw [← hW6]
            exact HBEL.out.setCell (by show w.heap.size ≤ w.heap.size; omega) _
          clear hl1 ha1 hq256
          by_cases hm0 : mc = 0
          · subst hm0
            have hnil : mts ts = [] := List.eq_nil_of_length_eq_zero HMC.out
            have hq0 : (incW (List.replicate 30 0) (mts ts))[0]? = some 0 := by rw [incW_at 30 _ (by decide), hnil]; rfl
            have q2 : W6.cell? ⟨(w.heap.size + 1), 0, none⟩ = some (.int .i64 ((0 : Nat) : Int)) := HM6.out.cell hq0
            have f2 : W6.frozen? ⟨(w.heap.size + 1), 0, none⟩ = false := HM6.out.free
            have HW2 : Hid (wt2 ts = (incW (List.replicate 30 0) (mts ts)).set 0 1) := by
              show _ = _
              rw [wt2, if_pos hnil, hnil]
              rfl
            clear hq0 hnil
            go_wp2
            refine bodyPost_ret (results_tmp3 rfl _ _ _) rfl ⟨HB6.out.setCell (by show w.heap.size ≤ (w.heap.size + 1); omega) _, w.heap.size, (w.heap.size + 1), rfl, (Below.heap_setCell _ _ _ _ (by show w.heap.size ≠ (w.heap.size + 1); omega)).trans HN6.out, by rw [HW2.out]; exact HM6.out.set 0 1, by omega, by omega⟩
          · have t0 : ((mc : Int) == 0) = false := by simp; omega
            have HW2 : Hid (wt2 ts = incW (List.replicate 30 0) (mts ts)) := by
              show _ = _
              rw [wt2, if_neg (fun e => hm0 (by rw [← HMC.out, e]; rfl))]
            clear hm0
            go_wp2
            refine bodyPost_ret (results_tmp3 rfl _ _ _) rfl ⟨HB6.out, w.heap.size, (w.heap.size + 1), rfl, HN6.out, by rw [HW2.out]; exact HM6.out, by omega, by omega⟩
  · have HZ1 : Hid (NB (((w.alloc (.cells (madeCells #[.int .i64 0] 30) 3)).alloc (.cells (madeCells #[.int .i64 0] 273) 3)).drew) (w.heap.size + 1) (incW (List.replicate 273 0) (fsts (ts.take 0)))) := (by have h := wei_made (w.alloc (.cells (madeCells #[.int .i64 0] 30) 3)) 273; rw [World.size_alloc] at h; exact h)
    have HZ2 : Hid (NB (((w.alloc (.cells (madeCells #[.int .i64 0] 30) 3)).alloc (.cells (madeCells #[.int .i64 0] 273) 3)).drew) w.heap.size (incW (List.replicate 30 0) (mts (ts.take 0)))) := ((wei_made w 30).below (B := (w.alloc (.cells (madeCells #[.int .i64 0] 30) 3)).heap.size) (((Below.refl _ _).alloc (Nat.le_refl _) _).drew) (by simp))
    have HB0 : Hid (Below w.heap.size w (((w.alloc (.cells (madeCells #[.int .i64 0] 30) 3)).alloc (.cells (madeCells #[.int .i64 0] 273) 3)).drew)) := (((Below.refl w.heap.size w).alloc (Nat.le_refl _) _).alloc (by simp) _).drew
    obtain ⟨W0, hW0⟩ : ∃ W0, ((w.alloc (.cells (madeCells #[.int .i64 0] 30) 3)).alloc (.cells (madeCells #[.int .i64 0] 273) 3)).drew = W0 := ⟨_, rfl⟩
    rw [hW0] at HZ1 HZ2 HB0 ⊢
    clear hW0 mk1 mk2
    go_wp2
    go_loopg [2, 3, 5, 17] l (fun gk s2 s3 m5 i wr => s2 = .slice (some ⟨(w.heap.size + 1), 0, none⟩) 273 273 ∧ s3 = .slice (some ⟨w.heap.size, 0, none⟩) 30 30 ∧ ∃ k : Nat, k + gk = l ∧ i = .int .i64 (k : Int) ∧ k ≤ n ∧ m5 = .int .i64 ((mts (ts.take k)).length : Nat) ∧ NB wr (w.heap.size + 1) (incW (List.replicate 273 0) (fsts (ts.take k))) ∧ NB wr w.heap.size (incW (List.replicate 30 0) (mts (ts.take k))) ∧ Below w.heap.size w wr)
    case atStart => exact ⟨rfl, rfl, 0, by omega, rfl, Nat.zero_le _, rfl, HZ1.out, HZ2.out, HB0.out⟩
    case round =>
      obtain ⟨rfl, rfl, k, hkg, rfl, hkn, rfl, hn1, hn2, hbel⟩ := hrel
      have HNB1 := Lib.hid hn1
      have HNB2 := Lib.hid hn2
      have HBEL := Lib.hid hbel
      clear hn1 hn2 hbel HZ1 HZ2 HB0
      have hml := mts_len (ts.take k)
      rw [List.length_take] at hml
      obtain ⟨mc, hmc⟩ : ∃ mc, (mts (ts.take k)).length = mc := ⟨_, rfl⟩
      have HMC := Lib.hid hmc
      rw [hmc] at hml ⊢
      clear hmc
      by_cases hkl : k < n
      · obtain ⟨t, ht⟩ : ∃ t, ts[k]? = some t := ⟨_, List.getElem?_eq_getElem (by rw [HN.out]; exact hkl)⟩
        have hok := HK.out t (List.mem_of_getElem? ht)
        have HSP := Lib.hid (fun W => splitT_any t W hok)
        have hc1 := cls1_lt hok
        have hc2 := cls2_lt hok
        have HTK : Hid (ts.take (k + 1) = ts.take k ++ [t]) := by show _ = _; rw [List.take_add_one, ht]; rfl
        have HF : Hid (fsts (ts.take (k + 1)) = fsts (ts.take k) ++ [(cls1 t).1]) := by show _ = _; rw [HTK.out, fsts_snoc]
        have HMT : Hid (mts (ts.take (k + 1)) = if isM t then mts (ts.take k) ++ [(cls2 t).1] else mts (ts.take k)) := by show _ = _; rw [HTK.out, mts_snoc]
        obtain ⟨b, o, rfl, hbB, v0, v1, v2⟩ := (HC.out k t ht).below HBEL.out
        have k1 : l ≤ 65536 := hm
        have HA1 : Hid ((incW (List.replicate 273 0) (fsts (ts.take k)))[(cls1 t).1]? = some ((fsts (ts.take k)).count (cls1 t).1)) := incW_at 273 _ hc1.1
        have HA2 : Hid ((incW (List.replicate 30 0) (mts (ts.take k)))[(cls2 t).1]? = some ((mts (ts.take k)).count (cls2 t).1)) := incW_at 30 _ hc2.1
        have HU1 : Hid (incW (List.replicate 273 0) (fsts (ts.take (k + 1))) = (incW (List.replicate 273 0) (fsts (ts.take k))).set (cls1 t).1 ((fsts (ts.take k)).count (cls1 t).1 + 1)) := by
          show _ = _
          rw [HF.out, incW_append, incW_cons, List.getD, HA1.out]
          rfl
        have HU2 : Hid (incW (List.replicate 30 0) (mts (ts.take k) ++ [(cls2 t).1]) = (incW (List.replicate 30 0) (mts (ts.take k))).set (cls2 t).1 ((mts (ts.take k)).count (cls2 t).1 + 1)) := by
          show _ = _
          rw [incW_append, incW_cons, List.getD, HA2.out]
          rfl
        have hcn1 : (fsts (ts.take k)).count (cls1 t).1 ≤ 65536 := by
          have h := List.count_le_length (a := (cls1 t).1) (l := fsts (ts.take k))
          rw [fsts_len, List.length_take] at h
          omega
        have hcn2 : (mts (ts.take k)).count (cls2 t).1 ≤ 65536 := by
          have h := List.count_le_length (a := (cls2 t).1) (l := mts (ts.take k))
          rw [HMC.out] at h
          omega
        obtain ⟨l1, hl1⟩ : ∃ l1, incW (List.replicate 273 0) (fsts (ts.take k)) = l1 := ⟨_, rfl⟩
        obtain ⟨l2, hl2⟩ : ∃ l2, incW (List.replicate 30 0) (mts (ts.take k)) = l2 := ⟨_, rfl⟩
        have HL2 := Lib.hid hl2
        rw [hl1] at HNB1 HA1 HU1
        rw [hl2] at HNB2 HA2 HU2
        obtain ⟨a1, ha1⟩ : ∃ a1, (fsts (ts.take k)).count (cls1 t).1 = a1 := ⟨_, rfl⟩
        obtain ⟨a2, ha2⟩ : ∃ a2, (mts (ts.take k)).count (cls2 t).1 = a2 := ⟨_, rfl⟩
        rw [ha1] at HA1 HU1 hcn1
        rw [ha2] at HA2 HU2 hcn2
        obtain ⟨⟨n1, b1, x1⟩, hq1⟩ : ∃ q, cls1 t = q := ⟨_, rfl⟩
        obtain ⟨⟨n2, b2, x2⟩, hq2⟩ : ∃ q, cls2 t = q := ⟨_, rfl⟩
        rw [hq1] at HSP HA1 HU1 hc1
        rw [hq2] at HSP HA2 HU2 hc2 HMT
        obtain ⟨m, hmm⟩ : ∃ m, isM t = m := ⟨_, rfl⟩
        rw [hmm] at HSP HMT
        dsimp only at HSP HA1 HU1 HA2 HU2 HMT hc1 hc2
        have hn273 := hc1.1
        have hn30 := hc2.1
        clear ht hok hl1 hl2 ha1 ha2 hq1 hq2 hmm hc1 hc2
        cases m with
        | true =>
          go_upto_region 9 with (go_at_call 39; refine (HSP.out _).mono ?_; rintro e w4 ⟨rfl, hb4⟩; unfold agR; have hb5 := ((Below.refl wr.heap.size wr).alloc (Nat.le_refl _) (.cells #[.int .u8 (t.1.toNat : Int), .int .i64 (t.2.1 : Int), .int .i64 (t.2.2 : Int)] 71)).trans (hb4.mono (by simp)); obtain ⟨W5, hW5⟩ : ∃ W5, w4.alloc (.cells #[.int .i64 (n1 : Int), .int .i64 (b1 : Int), .int .u32 (x1 : Int), .int .i64 (n2 : Int), .int .i64 (b2 : Int), .int .u32 (x2 : Int), .bool true] 75) = W5 := ⟨_, rfl⟩; have hb6 : Below wr.heap.size wr W5 := (by rw [← hW5]; exact hb5.alloc hb5.size _); have hx5 : W5.heap[w4.heap.size]? = some (.cells #[.int .i64 (n1 : Int), .int .i64 (b1 : Int), .int .u32 (x1 : Int), .int .i64 (n2 : Int), .int .i64 (b2 : Int), .int .u32 (x2 : Int), .bool true] 75 (0, 0)) := (by rw [← hW5]; exact heap_alloc_new w4 _); have hs4 : wr.heap.size ≤ w4.heap.size := hb5.size; have HW5 := Lib.hid hW5; clear hW5 hb4 hb5)
          rw [HW5.out]
          have HB5 := Lib.hid hb6
          have HN5 := Lib.hid (HNB1.out.below hb6 HNB1.out.lt)
          have HM5 := Lib.hid (HNB2.out.below hb6 HNB2.out.lt)
          have r0 : W5.cell? ⟨w4.heap.size, 0, none⟩ = some (.int .i64 (n1 : Int)) := cell_of_row _ _ 0 _ _ _ hx5
          have q1 : W5.cell? ⟨(w.heap.size + 1), n1, none⟩ = some (.int .i64 (a1 : Int)) := HN5.out.cell HA1.out
          have f1 : W5.frozen? ⟨(w.heap.size + 1), n1, none⟩ = false := HN5.out.free
          obtain ⟨W6, hW6⟩ : ∃ W6, W5.setCell ⟨(w.heap.size + 1), n1, none⟩ (.int .i64 ((a1 : Int) + 1)) = W6 := ⟨_, rfl⟩
          have hl1 : (w.heap.size + 1) < wr.heap.size := HNB1.out.lt
          have hl2 : w.heap.size < wr.heap.size := HNB2.out.lt
          have hx6 : W6.heap[w4.heap.size]? = some (.cells #[.int .i64 (n1 : Int), .int .i64 (b1 : Int), .int .u32 (x1 : Int), .int .i64 (n2 : Int), .int .i64 (b2 : Int), .int .u32 (x2 : Int), .bool true] 75 (0, 0)) := (by rw [← hW6]; exact (Below.heap_setCell _ _ _ _ (by show w4.heap.size ≠ (w.heap.size + 1); omega)).trans hx5)
          have r3 : W6.cell? ⟨w4.heap.size, 3, none⟩ = some (.int .i64 (n2 : Int)) := cell_of_row _ _ 3 _ _ _ hx6
          have r6 : W6.cell? ⟨w4.heap.size, 6, none⟩ = some (.bool true) := cell_of_row _ _ 6 _ _ _ hx6
          have HN6 : Hid (NB W6 (w.heap.size + 1) (l1.set n1 (a1 + 1))) := (by show NB _ _ _; rw [← hW6]; have h := HN5.out.set n1 (a1 + 1); push_cast at h; exact h)
          have HM6 : Hid (NB W6 w.heap.size l2) := (by show NB _ _ _; rw [← hW6]; exact (Below.heap_setCell _ _ _ _ (by show w.heap.size ≠ (w.heap.size + 1); omega)).trans HM5.out)
          have q2 : W6.cell? ⟨w.heap.size, n2, none⟩ = some (.int .i64 (a2 : Int)) := HM6.out.cell HA2.out
          have f2 : W6.frozen? ⟨w.heap.size, n2, none⟩ = false := HM6.out.free
          have HB6 : Hid (Below w.heap.size w W6) := (by show Below _ _ _; rw [← hW6]; exact (HBEL.out.trans (HB5.out.mono HBEL.out.size)).setCell (by show w.heap.size ≤ (w.heap.size + 1); omega) _)
          clear hb6 hx5 hx6
          go_wp2
          go_roundg (gk - 1)
          case measure => omega
          case rel =>
            refine ⟨rfl, rfl, k + 1, by omega, by go_num, by omega, ?_, ?_, ?_, HB6.out.setCell (by show w.heap.size ≤ w.heap.size; omega) _⟩
            · rw [HMT.out, if_pos trivial, List.length_append, HMC.out, List.length_singleton]
              go_num
            · rw [HU1.out]
              exact (Below.heap_setCell _ _ _ _ (by show (w.heap.size + 1) ≠ w.heap.size; omega)).trans HN6.out
            · rw [HMT.out, if_pos trivial, HU2.out]
              have h := HM6.out.set n2 (a2 + 1)
              push_cast at h
              exact h
        | false =>
          go_upto_region 9 with (go_at_call 39; refine (HSP.out _).mono ?_; rintro e w4 ⟨rfl, hb4⟩; unfold agR; have hb5 := ((Below.refl wr.heap.size wr).alloc (Nat.le_refl _) (.cells #[.int .u8 (t.1.toNat : Int), .int .i64 (t.2.1 : Int), .int .i64 (t.2.2 : Int)] 71)).trans (hb4.mono (by simp)); obtain ⟨W5, hW5⟩ : ∃ W5, w4.alloc (.cells #[.int .i64 (n1 : Int), .int .i64 (b1 : Int), .int .u32 (x1 : Int), .int .i64 (n2 : Int), .int .i64 (b2 : Int), .int .u32 (x2 : Int), .bool false] 75) = W5 := ⟨_, rfl⟩; have hb6 : Below wr.heap.size wr W5 := (by rw [← hW5]; exact hb5.alloc hb5.size _); have hx5 : W5.heap[w4.heap.size]? = some (.cells #[.int .i64 (n1 : Int), .int .i64 (b1 : Int), .int .u32 (x1 : Int), .int .i64 (n2 : Int), .int .i64 (b2 : Int), .int .u32 (x2 : Int), .bool false] 75 (0, 0)) := (by rw [← hW5]; exact heap_alloc_new w4 _); have hs4 : wr.heap.size ≤ w4.heap.size := hb5.size; have HW5 := Lib.hid hW5; clear hW5 hb4 hb5)
          rw [HW5.out]
          have HB5 := Lib.hid hb6
          have HN5 := Lib.hid (HNB1.out.below hb6 HNB1.out.lt)
          have HM5 := Lib.hid (HNB2.out.below hb6 HNB2.out.lt)
          have r0 : W5.cell? ⟨w4.heap.size, 0, none⟩ = some (.int .i64 (n1 : Int)) := cell_of_row _ _ 0 _ _ _ hx5
          have q1 : W5.cell? ⟨(w.heap.size + 1), n1, none⟩ = some (.int .i64 (a1 : Int)) := HN5.out.cell HA1.out
          have f1 : W5.frozen? ⟨(w.heap.size + 1), n1, none⟩ = false := HN5.out.free
          obtain ⟨W6, hW6⟩ : ∃ W6, W5.setCell ⟨(w.heap.size + 1), n1, none⟩ (.int .i64 ((a1 : Int) + 1)) = W6 := ⟨_, rfl⟩
          have hl1 : (w.heap.size + 1) < wr.heap.size := HNB1.out.lt
          have hl2 : w.heap.size < wr.heap.size := HNB2.out.lt
          have hx6 : W6.heap[w4.heap.size]? = some (.cells #[.int .i64 (n1 : Int), .int .i64 (b1 : Int), .int .u32 (x1 : Int), .int .i64 (n2 : Int), .int .i64 (b2 : Int), .int .u32 (x2 : Int), .bool false] 75 (0, 0)) := (by rw [← hW6]; exact (Below.heap_setCell _ _ _ _ (by show w4.heap.size ≠ (w.heap.size + 1); omega)).trans hx5)
          have r3 : W6.cell? ⟨w4.heap.size, 3, none⟩ = some (.int .i64 (n2 : Int)) := cell_of_row _ _ 3 _ _ _ hx6
          have r6 : W6.cell? ⟨w4.heap.size, 6, none⟩ = some (.bool false) := cell_of_row _ _ 6 _ _ _ hx6
          have HN6 : Hid (NB W6 (w.heap.size + 1) (l1.set n1 (a1 + 1))) := (by show NB _ _ _; rw [← hW6]; have h := HN5.out.set n1 (a1 + 1); push_cast at h; exact h)
          have HM6 : Hid (NB W6 w.heap.size l2) := (by show NB _ _ _; rw [← hW6]; exact (Below.heap_setCell _ _ _ _ (by show w.heap.size ≠ (w.heap.size + 1); omega)).trans HM5.out)
          have q2 : W6.cell? ⟨w.heap.size, n2, none⟩ = some (.int .i64 (a2 : Int)) := HM6.out.cell HA2.out
          have f2 : W6.frozen? ⟨w.heap.size, n2, none⟩ = false := HM6.out.free
          have HB6 : Hid (Below w.heap.size w W6) := (by show Below _ _ _; rw [← hW6]; exact (HBEL.out.trans (HB5.out.mono HBEL.out.size)).setCell (by show w.heap.size ≤ (w.heap.size + 1); omega) _)
          clear hb6 hx5 hx6
          go_wp2
          go_roundg (gk - 1)
          case measure => omega
          case rel =>
            refine ⟨rfl, rfl, k + 1, by omega, by go_num, by omega, ?_, ?_, ?_, HB6.out⟩
            · rw [HMT.out, if_neg (by simp), HMC.out]
            · rw [HU1.out]
              exact HN6.out
            · rw [HMT.out, if_neg (by simp), HL2.out]
              exact HM6.out
      · obtain rfl : k = n := by omega
        rw [show ts.take k = ts from List.take_of_length_le (by rw [HN.out]; exact Nat.le_refl _)] at HNB1 HNB2 HMC
        by_cases hlast : k < l
        · obtain ⟨y, ln, d, hta, hrt⟩ : ∃ y ln d, TkAt w A k y ln d ∧ rightT y ln d = false := by
            rcases HEND.out with h | ⟨_, h⟩
            · omega
            · exact h
          obtain ⟨b, o, rfl, hbB, v0, v1, v2⟩ := hta.below HBEL.out
          have HSP := Lib.hid (fun W => split_no y ln d W hrt)
          clear hta hrt
          go_wp2_with (go_at_call 39; refine (HSP.out _).mono ?_; rintro e w4 ⟨rfl, hb4⟩; unfold agR; have hb5 := ((Below.refl wr.heap.size wr).alloc (Nat.le_refl _) (.cells #[.int .u8 y, .int .i64 ln, .int .i64 d] 71)).trans (hb4.mono (by simp)); have HB5 := Lib.hid (HBEL.out.trans (hb5.mono HBEL.out.size)); clear hb4 hb5)
          refine bodyPost_ret (results_tmp3 rfl _ _ _) rfl ⟨HB5.out.alloc HB5.out.size _, .inl ⟨hlast, rfl⟩⟩
        · obtain rfl : k = l := by omega
          have hq256 : (incW (List.replicate 273 0) (fsts ts))[256]? = some ((fsts ts).count 256) := incW_at 273 _ (by decide)
          have HW1 : Hid (wt1 ts = (incW (List.replicate 273 0) (fsts ts)).set 256 ((fsts ts).count 256 + 1)) := by
            show _ = _
            rw [wt1, incW_append, incW_cons, List.getD, hq256]
            rfl
          have hcn1 : (fsts ts).count 256 ≤ 65536 := by
            have h := List.count_le_length (a := 256) (l := fsts ts)
            rw [fsts_len, HN.out] at h
            omega
          obtain ⟨l1, hl1⟩ : ∃ l1, incW (List.replicate 273 0) (fsts ts) = l1 := ⟨_, rfl⟩
          obtain ⟨a1, ha1⟩ : ∃ a1, (fsts ts).count 256 = a1 := ⟨_, rfl⟩
          rw [hl1] at HNB1 hq256 HW1
          rw [ha1] at hq256 HW1 hcn1
          have q1 : wr.cell? ⟨(w.heap.size + 1), 256, none⟩ = some (.int .i64 (a1 : Int)) := HNB1.out.cell hq256
          have f1 : wr.frozen? ⟨(w.heap.size + 1), 256, none⟩ = false := HNB1.out.free
          obtain ⟨W6, hW6⟩ : ∃ W6, wr.setCell ⟨(w.heap.size + 1), 256, none⟩ (.int .i64 ((a1 : Int) + 1)) = W6 := ⟨_, rfl⟩
          have HN6 : Hid (NB W6 (w.heap.size + 1) (wt1 ts)) := by
            show NB _ _ _
            rw [← hW6, HW1.out]
            have h := HNB1.out.set 256 (a1 + 1)
            push_cast at h
            exact h
          have HM6 : Hid (NB W6 w.heap.size (incW (List.replicate 30 0) (mts ts))) := by
            show NB _ _ _
            rw [← hW6]
            exact (Below.heap_setCell _ _ _ _ (by show w.heap.size ≠ (w.heap.size + 1); omega)).trans HNB2.out
          have HB6 : Hid (Below w.heap.size w W6) := by
            show Below _ _ _
            rw [← hW6]
            exact HBEL.out.setCell (by show w.heap.size ≤ (w.heap.size + 1); omega) _
          clear hl1 ha1 hq256
          by_cases hm0 : mc = 0
          · subst hm0
            have hnil : mts ts = [] := List.eq_nil_of_length_eq_zero HMC.out
            have hq0 : (incW (List.replicate 30 0) (mts ts))[0]? = some 0 := by rw [incW_at 30 _ (by decide), hnil]; rfl
            have q2 : W6.cell? ⟨w.heap.size, 0, none⟩ = some (.int .i64 ((0 : Nat) : Int)) := HM6.out.cell hq0
            have f2 : W6.frozen? ⟨w.heap.size, 0, none⟩ = false := HM6.out.free
            have HW2 : Hid (wt2 ts = (incW (List.replicate 30 0) (mts ts)).set 0 1) := by
              show _ = _
              rw [wt2, if_pos hnil, hnil]
              rfl
            clear hq0 hnil
            go_wp2
            refine bodyPost_ret (results_tmp3 rfl _ _ _) rfl ⟨HB6.out.setCell (by show w.heap.size ≤ w.heap.size; omega) _, (w.heap.size + 1), w.heap.size, rfl, (Below.heap_setCell _ _ _ _ (by show (w.heap.size + 1) ≠ w.heap.size; omega)).trans HN6.out, by rw [HW2.out]; exact HM6.out.set 0 1, by omega, by omega⟩
          · have t0 : ((mc : Int) == 0) = false := by simp; omega
            have HW2 : Hid (wt2 ts = incW (List.replicate 30 0) (mts ts)) := by
              show _ = _
              rw [wt2, if_neg (fun e => hm0 (by rw [← HMC.out, e]; rfl))]
            clear hm0
            go_wp2
            refine bodyPost_ret (results_tmp3 rfl _ _ _) rfl ⟨HB6.out, (w.heap.size + 1), w.heap.size, rfl, HN6.out, by rw [HW2.out]; exact HM6.out, by omega, by omega⟩
end Go.Proofs.YtkikgidmioofaaaGreat
/- Layer 13: a block is put. -/
namespace Go.Proofs.YtkikgidmioofaaaGreat
open Go.RowKit BitsP SymP

/-- What the loop keeps: the writer. -/
structure BkI (w4 W : World) (q base : Nat) (S4 S' : Nat → Prop) (M : List Bool) : Prop where
  wr : WrS W q base S' M
  mod : Mod S4 w4 W
  own : ∀ k, S' k → S4 k ∨ w4.heap.size ≤ k
section
variable {w4 X Y : World} {q base : Nat} {S4 S1 S2 : Nat → Prop} {M M2 : List Bool}
theorem BkI.next (h : BkI w4 X q base S4 S1 M) (hw : WrS Y q base S2 M2) (hm : Mod S1 X Y) (hs : ∀ k, S2 k → S1 k ∨ X.heap.size ≤ k) : BkI w4 Y q base S4 S2 M2 :=
  ⟨hw, h.mod.trans hm h.own, fun k hk => (hs k hk).elim (h.own k) (fun h2 => .inr (Nat.le_trans h.mod.size h2))⟩
theorem BkI.below (h : BkI w4 X q base S4 S1 M) (hb : Below X.heap.size X Y) : BkI w4 Y q base S4 S1 M :=
  ⟨h.wr.keep (Mod.of_below hb) (fun _ _ h => h), h.mod.then_ ((Mod.of_below hb).mono fun _ h => h.elim), h.own⟩
end
theorem clsB_len {zs : List Int} (hr : caR zs = true) {c : Nat × Nat × Nat} (hc : c.2.1 ≤ 13) : (clsB zs c).length ≤ 28 := by
  have h := symB_len hr (c.1 : Int)
  unfold clsB
  rw [List.length_append, bitsOf_length]
  omega
theorem toksB_len {z1 z2 : List Int} (h1 : caR z1 = true) (h2 : caR z2 = true) : ∀ {ts : List Tk}, (∀ t ∈ ts, okT t) → (toksB z1 z2 ts).length ≤ 56 * ts.length
  | [], _ => Nat.zero_le _
  | t :: ts, h => by
    have hok := h t List.mem_cons_self
    have ih := toksB_len h1 h2 (ts := ts) (fun x hx => h x (List.mem_cons_of_mem _ hx))
    have a1 := clsB_len h1 (cls1_lt hok).2.1
    have a2 := clsB_len h2 (cls2_lt hok).2.1
    have e : toksB z1 z2 (t :: ts) = tokB z1 z2 t ++ toksB z1 z2 ts := rfl
    rw [e, List.length_append, List.length_cons]
    have a3 : (tokB z1 z2 t).length ≤ 56 := by
      unfold tokB
      rw [List.length_append]
      split
      · omega
      · rw [List.length_nil]; omega
    omega
theorem TkAt.mod {w W : World} {S : Nat → Prop} {A : Option Addr} {k : Nat} {y l d : Int} (h : TkAt w A k y l d) (hm : Mod S w W) (hA : ∀ a, A = some a → ¬ S a.block) : TkAt W A k y l d := by
  obtain ⟨b, o, rfl, h2, h3, h4, h5⟩ := h
  have hb := hm.block b h2 (hA _ rfl)
  exact ⟨b, o, rfl, Nat.lt_of_lt_of_le h2 hm.size, (World.cell?_of_block (a := ⟨b, o + k * 3, none⟩) hb).trans h3, (World.cell?_of_block (a := ⟨b, o + k * 3 + 1, none⟩) hb).trans h4, (World.cell?_of_block (a := ⟨b, o + k * 3 + 2, none⟩) hb).trans h5⟩
set_option maxRecDepth 100000 in
set_option maxHeartbeats 4000000 in
theorem blkput_any (A : Option Addr) (l c q base : Nat) (ts : List Tk) (S : Nat → Prop) (L : List Bool) (w : World) (hl : ts.length = l) (hm : l ≤ 65536) (hk : ∀ t ∈ ts, okT t) (hc : ∀ k t, ts[k]? = some t → TkAt w A k (t.1.toNat : Int) (t.2.1 : Int) (t.2.2 : Int)) (hA : 0 < l → ∀ a, A = some a → ¬ S a.block)
    (hw : WrS w q base S L) (hL : L.length ≤ 1000) (hbase : base ≤ w.heap.size) :
    Calls Tryz.prog 19 #[.pointer (some ⟨q, 0, none⟩), .slice A l c] w fun e w' => e = .returned (.int .i64 0) ∧ ∃ S', WrS w' q base S' (L ++ blkB ts) ∧ Mod S w w' ∧ ∀ k, S' k → S k ∨ w.heap.size ≤ k := by
  have HWT := Lib.hid (weights_gen A l c ts w hm hk hc (.inl hl))
  have HW := Lib.hid hw
  have HK := Lib.hid hk
  have HL := Lib.hid hl
  have HA := Lib.hid hA
  have HC := Lib.hid hc
  have HR1 : Hid (caR (zN (lensW (wt1 ts))) = true) := by
    obtain ⟨x, hx, h0⟩ := wt1_end ts
    exact lensW_caR (by rw [wt1_len]; omega) hx h0
  have HR2 : Hid (caR (zN (lensW (wt2 ts))) = true) := by
    obtain ⟨s, x, hx, h0⟩ := wt2_some ts hk
    exact lensW_caR (by rw [wt2_len]; omega) hx h0
  have HSL : Hid (∀ k, S k → k < w.heap.size) := hw.lt
  clear hw hk hl hA hc
  go_enter Tryz.func19, Tryz.ntmps19
  go_wp2_with fail
  refine HWT.out.mono ?_
  rintro e w2 ⟨hb2, ⟨hlt, _⟩ | ⟨_, g1, g2, rfl, hn1, hn2, hg1, hg2⟩⟩
  · have := HL.out
    omega
  have HB2 := Lib.hid hb2
  have hw2s := hb2.size
  have HN1 := Lib.hid hn1
  have HN2 := Lib.hid hn2
  have HT1 := Lib.hid (putTable_any (some ⟨g1, 0, none⟩) 273 273 q base (wt1 ts) S L w2 (wt1_len ts) (by omega) (NB.cellsT hn1) (fun x hx => by
      have h1 := incW_le 273 _ x hx
      rw [List.length_append, fsts, List.length_map, HL.out] at h1
      simp at h1
      omega) (by obtain ⟨x, h1, h2⟩ := wt1_end ts; exact ⟨256, x, h1, h2⟩) (HW.out.keep (Mod.of_below hb2) (fun _ _ h => h)) (by omega) (by omega))
  have HT2 : Hid (∀ (W : World) (S' : Nat → Prop) (L' : List Bool), NB W g2 (wt2 ts) → WrS W q base S' L' → L'.length ≤ 100000000 → base ≤ W.heap.size → _) := fun W S' L' hn hw hl hb => putTable_any (some ⟨g2, 0, none⟩) 30 30 q base (wt2 ts) S' L' W (wt2_len ts) (by omega) (NB.cellsT hn) (fun x hx => by
      have h1 := incW_le 30 _ x hx
      have h2 := mts_len ts
      split at h1
      · simp at h1; omega
      · have := HL.out; omega) (wt2_some ts HK.out) hw hl hb
  have HTL : Hid (∀ ws : List Nat, ws.length ≤ 320 → (∃ s x : Nat, ws[s]? = some x ∧ 0 < x) → (tabP (lensW ws)).length ≤ 100000) := fun ws hws hex => by
    obtain ⟨s, x, hx, h0⟩ := hex
    have hv : ∀ y ∈ lensW ws, y ≤ 15 := fun y hy => by
      obtain ⟨k, hk⟩ := List.mem_iff_getElem?.1 hy
      have hkl := (List.getElem?_eq_some_iff.1 hk).1
      rw [lensW_len] at hkl
      have h2 := (lensW_pos (ns := ws) (by omega) (List.getElem?_eq_getElem hkl)).2
      rw [List.getD, hk] at h2
      exact h2
    obtain ⟨t, ht⟩ := partsP_ne (ls := lensW ws) (by rw [lensW_len]; have := (List.getElem?_eq_some_iff.1 hx).1; omega)
    have h2 := partsB_len (lnP_right ht (partsP_all hv t ht)) (partsP (lensW ws) 0)
    have h3 := parts_few (lensW ws)
    rw [lensW_len] at h3
    rw [tabP, List.length_append, List.length_append, bitsOf_length, lensB_len, lnP_len]
    omega
  have HTL1 := HTL.out (wt1 ts) (by rw [wt1_len]; omega) (by obtain ⟨x, h1, h2⟩ := wt1_end ts; exact ⟨256, x, h1, h2⟩)
  have HTL2 := HTL.out (wt2 ts) (by rw [wt2_len]; omega) (wt2_some ts HK.out)
  obtain ⟨z1, hz1⟩ : ∃ z1, zN (lensW (wt1 ts)) = z1 := ⟨_, rfl⟩
  obtain ⟨z2, hz2⟩ : ∃ z2, zN (lensW (wt2 ts)) = z2 := ⟨_, rfl⟩
  obtain ⟨T1, hT1⟩ : ∃ T1, tabP (lensW (wt1 ts)) = T1 := ⟨_, rfl⟩
  obtain ⟨T2, hT2⟩ : ∃ T2, tabP (lensW (wt2 ts)) = T2 := ⟨_, rfl⟩
  have HBLK : Hid (L ++ blkB ts = ((L ++ T1) ++ T2) ++ toksB z1 z2 ts ++ symB z1 256) := by show _ = _; rw [blkB, hz1, hz2, hT1, hT2]; simp only [List.append_assoc]
  rw [hz1] at HR1
  rw [hz2] at HR2
  rw [hz1, hT1] at HT1
  rw [hT1] at HTL1
  rw [hT2] at HTL2
  rw [hz2, hT2] at HT2
  clear hn1 hn2 hb2 hz1 hz2 hT1 hT2 HTL HWT
  go_wp2_with (first
    | (go_at_call 38; refine HT1.out.mono ?_; rintro e w3 ⟨ga, na, S3, rfl, hw3, hm3, hs3, hla, hna, hga⟩; clear HT1; have HW3 := Lib.hid hw3; have HM3 := Lib.hid hm3; have HS3 := Lib.hid hs3; have HLA := Lib.hid hla; have HNA := Lib.hid hna; have HGA := Lib.hid hga; have HN3 := Lib.hid (show NB w3 g2 (wt2 ts) from hm3.keep HN2.out (fun h => by have := HSL.out g2 h; omega)); clear hw3 hm3 hs3 hla hna hga)
    | (go_at_call 38; refine (HT2.out w3 S3 _ HN3.out HW3.out (by rw [List.length_append]; omega) (by have := HM3.out.size; omega)).mono ?_; rintro e w4 ⟨gb, nb, S4, rfl, hw4, hm4, hs4, hlb, hnb, hgb⟩; have HW4 := Lib.hid hw4; have HM4 := Lib.hid hm4; have HS4 := Lib.hid hs4; have HLB := Lib.hid hlb; have HNB4 := Lib.hid hnb; have HLA4 := Lib.hid (HLA.out.keep2 hm4 (fun k hk => .inl (HNA.out k hk))); clear hw4 hm4 hs4 hlb hnb hgb))
  have HOW : Hid (∀ k, S4 k → S k ∨ w.heap.size ≤ k) := fun k hk => (HS4.out k hk).elim (fun h => (HS3.out k h).imp id (fun h => by have := HB2.out.size; omega)) (fun h => .inr (by have := HB2.out.size; have := HM3.out.size; omega))
  have HMW : Hid (∀ W, Mod S4 w4 W → Mod S w W) := fun W hW => ((((Mod.of_below HB2.out).mono (fun _ h => h.elim)).then_ HM3.out).trans HM4.out (fun k hk => (HS3.out k hk).imp id (fun h => by have := HB2.out.size; omega))).trans hW HOW.out
  have HLAW : Hid (∀ W, Mod S4 w4 W → LCa W na ga z1) := fun W hW => HLA4.out.keep2 hW (fun k hk => (HS4.out k hk).imp (HNA.out k) (fun h => by have := HGA.out; omega))
  have HLBW : Hid (∀ W, Mod S4 w4 W → LCa W nb gb z2) := fun W hW => HLB.out.keep hW HNB4.out
  obtain ⟨M4, hM4⟩ : ∃ M4, (L ++ T1) ++ T2 = M4 := ⟨_, rfl⟩
  have HM4E := Lib.hid hM4
  have hM4l : M4.length ≤ 300000 := by rw [← hM4, List.length_append, List.length_append]; omega
  have HI0 : Hid (BkI w4 w4 q base S4 S4 (M4 ++ toksB z1 z2 (ts.take 0))) := ⟨by have h := HW4.out; rw [hM4] at h; simpa [toksB] using h, Mod.refl _ _, fun _ h => .inl h⟩
  have HTB : Hid (∀ k, (toksB z1 z2 (ts.take k)).length ≤ 3700000) := fun k => by
    have h := toksB_len HR1.out HR2.out (ts := ts.take k) (fun t ht => HK.out t (List.mem_of_mem_take ht))
    rw [List.length_take] at h
    omega
  clear hM4 HW4 HN1 HN2 HN3 HLA HW3 HTL1 HTL2 HT2
  go_loopg [32] l (fun gk i wr => ∃ (k : Nat) (S' : Nat → Prop), k + gk = l ∧ i = .int .i64 (k : Int) ∧ BkI w4 wr q base S4 S' (M4 ++ toksB z1 z2 (ts.take k)))
  case atStart => exact ⟨0, S4, by omega, rfl, HI0.out⟩
  case round =>
    obtain ⟨k, S', hkg, rfl, hbi⟩ := hrel
    have HBI := Lib.hid hbi
    have htb := HTB.out k
    have hlen : (M4 ++ toksB z1 z2 (ts.take k)).length ≤ 4000000 := by rw [List.length_append]; omega
    clear hbi HI0
    by_cases hkl : k < l
    · obtain ⟨t, ht⟩ : ∃ t, ts[k]? = some t := ⟨_, List.getElem?_eq_getElem (by rw [HL.out]; exact hkl)⟩
      have hok := HK.out t (List.mem_of_getElem? ht)
      have HSP := Lib.hid (fun W => splitT_any t W hok)
      have hc1 := cls1_lt hok
      have hc2 := cls2_lt hok
      have HTK : Hid (toksB z1 z2 (ts.take (k + 1)) = toksB z1 z2 (ts.take k) ++ tokB z1 z2 t) := by show _ = _; rw [List.take_add_one, ht, ← toksB_snoc]; rfl
      have HTO : Hid (tokB z1 z2 t = clsB z1 (cls1 t) ++ (if isM t then clsB z2 (cls2 t) else [])) := rfl
      obtain ⟨b, o, rfl, hbB, v0, v1, v2⟩ := (HC.out k t ht).mod (HMW.out wr HBI.out.mod) (HA.out (by omega))
      obtain ⟨⟨n1, b1, x1⟩, hq1⟩ : ∃ q, cls1 t = q := ⟨_, rfl⟩
      obtain ⟨⟨n2, b2, x2⟩, hq2⟩ : ∃ q, cls2 t = q := ⟨_, rfl⟩
      rw [hq1] at HSP HTO hc1
      rw [hq2] at HSP HTO hc2
      obtain ⟨m, hmm⟩ : ∃ m, isM t = m := ⟨_, rfl⟩
      rw [hmm] at HSP HTO
      dsimp only at HSP hc1 hc2
      clear ht hok hq1 hq2 hmm htb hbB
      cases m with
      | true =>
          go_upto_region 11 with (go_at_call 39; refine (HSP.out _).mono ?_; rintro e w6 ⟨rfl, hb6⟩; unfold agR; have hb7 := ((Below.refl wr.heap.size wr).alloc (Nat.le_refl _) (.cells #[.int .u8 (t.1.toNat : Int), .int .i64 (t.2.1 : Int), .int .i64 (t.2.2 : Int)] 71)).trans (hb6.mono (by simp)); obtain ⟨W5, hW5⟩ : ∃ W5, w6.alloc (.cells #[.int .i64 (n1 : Int), .int .i64 (b1 : Int), .int .u32 (x1 : Int), .int .i64 (n2 : Int), .int .i64 (b2 : Int), .int .u32 (x2 : Int), .bool true] 75) = W5 := ⟨_, rfl⟩; have hb8 : Below wr.heap.size wr W5 := (by rw [← hW5]; exact hb7.alloc hb7.size _); have hx5 : W5.heap[w6.heap.size]? = some (.cells #[.int .i64 (n1 : Int), .int .i64 (b1 : Int), .int .u32 (x1 : Int), .int .i64 (n2 : Int), .int .i64 (b2 : Int), .int .u32 (x2 : Int), .bool true] 75 (0, 0)) := (by rw [← hW5]; exact heap_alloc_new w6 _); have hs6 : wr.heap.size ≤ w6.heap.size := hb7.size; have HW5 := Lib.hid hW5; clear hW5 hb6 hb7)
          rw [HW5.out]
          have HI5 := Lib.hid (HBI.out.below hb8)
          have HX5 := Lib.hid hx5
          have r0 : W5.cell? ⟨w6.heap.size, 0, none⟩ = some (.int .i64 (n1 : Int)) := cell_of_row _ _ 0 _ _ _ hx5
          have r1 : W5.cell? ⟨w6.heap.size, 1, none⟩ = some (.int .i64 (b1 : Int)) := cell_of_row _ _ 1 _ _ _ hx5
          have r2 : W5.cell? ⟨w6.heap.size, 2, none⟩ = some (.int .u32 (x1 : Int)) := cell_of_row _ _ 2 _ _ _ hx5
          have hbw5 : base ≤ W5.heap.size := by have := HI5.out.mod.size; have := HM4.out.size; have := HM3.out.size; omega
          have HP1 := Lib.hid (putClass_any ga q base na z1 S' (M4 ++ toksB z1 z2 (ts.take k)) (n1, b1, x1) W5 HR1.out (HLAW.out W5 HI5.out.mod) HI5.out.wr (by omega) hbw5 hc1.2.1 hc1.2.2)
          have HLT : Hid (∀ j, S' j → j < wr.heap.size) := HBI.out.wr.lt
          clear hb8 hx5 HW5
          go_wp2_with (first
            | (go_at_call 40; refine HP1.out.mono ?_; rintro e w7 ⟨rfl, S7, hw7, hm7, hs7⟩; clear HP1; have HI7 := Lib.hid (HI5.out.next hw7 hm7 hs7); have hx7 := hm7.keep HX5.out (fun h => by have := HLT.out _ h; omega); have r3 : w7.cell? ⟨w6.heap.size, 3, none⟩ = some (.int .i64 (n2 : Int)) := cell_of_row _ _ 3 _ _ _ hx7; have r4 : w7.cell? ⟨w6.heap.size, 4, none⟩ = some (.int .i64 (b2 : Int)) := cell_of_row _ _ 4 _ _ _ hx7; have r5 : w7.cell? ⟨w6.heap.size, 5, none⟩ = some (.int .u32 (x2 : Int)) := cell_of_row _ _ 5 _ _ _ hx7; have r6 : w7.cell? ⟨w6.heap.size, 6, none⟩ = some (.bool true) := cell_of_row _ _ 6 _ _ _ hx7; have HP2 := Lib.hid (putClass_any gb q base nb z2 S7 ((M4 ++ toksB z1 z2 (ts.take k)) ++ clsB z1 (n1, b1, x1)) (n2, b2, x2) w7 HR2.out (HLBW.out w7 HI7.out.mod) HI7.out.wr (by rw [List.length_append]; have := clsB_len HR1.out (c := (n1, b1, x1)) hc1.2.1; omega) (by have := hm7.size; omega) hc2.2.1 hc2.2.2); clear hw7 hm7 hs7 hx7)
            | (go_at_call 40; refine HP2.out.mono ?_; rintro e w8 ⟨rfl, S8, hw8, hm8, hs8⟩; have HI8 := Lib.hid (HI7.out.next hw8 hm8 hs8); clear hw8 hm8 hs8))
          go_roundg (gk - 1)
          case measure => omega
          case rel =>
            refine ⟨k + 1, S8, by omega, by go_num, ?_⟩
            have h := HI8.out
            rw [HTK.out, HTO.out]
            simpa only [if_true, Bool.false_eq_true, if_false, List.append_nil, List.append_assoc] using h
      | false =>
          go_upto_region 11 with (go_at_call 39; refine (HSP.out _).mono ?_; rintro e w6 ⟨rfl, hb6⟩; unfold agR; have hb7 := ((Below.refl wr.heap.size wr).alloc (Nat.le_refl _) (.cells #[.int .u8 (t.1.toNat : Int), .int .i64 (t.2.1 : Int), .int .i64 (t.2.2 : Int)] 71)).trans (hb6.mono (by simp)); obtain ⟨W5, hW5⟩ : ∃ W5, w6.alloc (.cells #[.int .i64 (n1 : Int), .int .i64 (b1 : Int), .int .u32 (x1 : Int), .int .i64 (n2 : Int), .int .i64 (b2 : Int), .int .u32 (x2 : Int), .bool false] 75) = W5 := ⟨_, rfl⟩; have hb8 : Below wr.heap.size wr W5 := (by rw [← hW5]; exact hb7.alloc hb7.size _); have hx5 : W5.heap[w6.heap.size]? = some (.cells #[.int .i64 (n1 : Int), .int .i64 (b1 : Int), .int .u32 (x1 : Int), .int .i64 (n2 : Int), .int .i64 (b2 : Int), .int .u32 (x2 : Int), .bool false] 75 (0, 0)) := (by rw [← hW5]; exact heap_alloc_new w6 _); have hs6 : wr.heap.size ≤ w6.heap.size := hb7.size; have HW5 := Lib.hid hW5; clear hW5 hb6 hb7)
          rw [HW5.out]
          have HI5 := Lib.hid (HBI.out.below hb8)
          have HX5 := Lib.hid hx5
          have r0 : W5.cell? ⟨w6.heap.size, 0, none⟩ = some (.int .i64 (n1 : Int)) := cell_of_row _ _ 0 _ _ _ hx5
          have r1 : W5.cell? ⟨w6.heap.size, 1, none⟩ = some (.int .i64 (b1 : Int)) := cell_of_row _ _ 1 _ _ _ hx5
          have r2 : W5.cell? ⟨w6.heap.size, 2, none⟩ = some (.int .u32 (x1 : Int)) := cell_of_row _ _ 2 _ _ _ hx5
          have hbw5 : base ≤ W5.heap.size := by have := HI5.out.mod.size; have := HM4.out.size; have := HM3.out.size; omega
          have HP1 := Lib.hid (putClass_any ga q base na z1 S' (M4 ++ toksB z1 z2 (ts.take k)) (n1, b1, x1) W5 HR1.out (HLAW.out W5 HI5.out.mod) HI5.out.wr (by omega) hbw5 hc1.2.1 hc1.2.2)
          have HLT : Hid (∀ j, S' j → j < wr.heap.size) := HBI.out.wr.lt
          clear hb8 hx5 HW5
          go_wp2_with (first
            | (go_at_call 40; refine HP1.out.mono ?_; rintro e w7 ⟨rfl, S7, hw7, hm7, hs7⟩; clear HP1; have HI7 := Lib.hid (HI5.out.next hw7 hm7 hs7); have hx7 := hm7.keep HX5.out (fun h => by have := HLT.out _ h; omega); have r3 : w7.cell? ⟨w6.heap.size, 3, none⟩ = some (.int .i64 (n2 : Int)) := cell_of_row _ _ 3 _ _ _ hx7; have r4 : w7.cell? ⟨w6.heap.size, 4, none⟩ = some (.int .i64 (b2 : Int)) := cell_of_row _ _ 4 _ _ _ hx7; have r5 : w7.cell? ⟨w6.heap.size, 5, none⟩ = some (.int .u32 (x2 : Int)) := cell_of_row _ _ 5 _ _ _ hx7; have r6 : w7.cell? ⟨w6.heap.size, 6, none⟩ = some (.bool false) := cell_of_row _ _ 6 _ _ _ hx7;  clear hw7 hm7 hs7 hx7))
          go_roundg (gk - 1)
          case measure => omega
          case rel =>
            refine ⟨k + 1, S7, by omega, by go_num, ?_⟩
            have h := HI7.out
            rw [HTK.out, HTO.out]
            simpa only [if_true, Bool.false_eq_true, if_false, List.append_nil, List.append_assoc] using h
    · obtain rfl : k = l := by omega
      rw [show ts.take k = ts from List.take_of_length_le (by rw [HL.out]; exact Nat.le_refl _)] at HBI hlen
      have HP9 := Lib.hid (put8_any ga q base z1 S' (M4 ++ toksB z1 z2 ts) 256 wr HR1.out (HLAW.out wr HBI.out.mod).lc HBI.out.wr (by omega) (by have := HBI.out.mod.size; have := HM4.out.size; have := HM3.out.size; omega))
      go_wp2_with (go_at_call 41; refine HP9.out.mono ?_; rintro e w9 ⟨rfl, S9, hw9, hm9, hs9⟩; have HI9 := Lib.hid (HBI.out.next hw9 hm9 hs9); clear hw9 hm9 hs9)
      go_ret
      refine ⟨rfl, S9, ?_, HMW.out _ HI9.out.mod, fun j hj => (HI9.out.own j hj).elim (HOW.out j) (fun h => .inr (by have := HM4.out.size; have := HM3.out.size; have := HB2.out.size; omega))⟩
      have h := HI9.out.wr
      rw [HBLK.out, HM4E.out]
      exact h
end Go.Proofs.YtkikgidmioofaaaGreat
/- Layer 13: the reference's Right and Weights. -/
namespace Go.Proofs.YtkikgidmioofaaaGreat
open Go.RowKit BitsP SymP
attribute [local go_sem ↓] Go.wp_at_zero Go.wp_at_succ

end Go.Proofs.YtkikgidmioofaaaGreat
/- Layer 13: tokens that come in: those that may be, up to the first one that may not. -/
namespace Go.Proofs.YtkikgidmioofaaaGreat
open Go.RowKit BitsP SymP

/-- The tokens ahead of the first one that may not be. -/
def ToksOf (w : World) (A : Option Addr) (l : Nat) (ts : List Tk) : Prop :=
  (∀ t ∈ ts, okT t) ∧ (∀ k t, ts[k]? = some t → TkAt w A k (t.1.toNat : Int) (t.2.1 : Int) (t.2.2 : Int)) ∧ (ts.length = l ∨ (ts.length < l ∧ ∃ y ln d, TkAt w A ts.length y ln d ∧ rightT y ln d = false))
theorem ToksOf.below {w W : World} {A : Option Addr} {l : Nat} {ts : List Tk} (h : ToksOf w A l ts) (hb : Below w.heap.size w W) : ToksOf W A l ts :=
  ⟨h.1, fun k t ht => (h.2.1 k t ht).below hb, h.2.2.imp id fun ⟨h1, y, ln, d, h2, h3⟩ => ⟨h1, y, ln, d, h2.below hb, h3⟩⟩
section
variable {A : Option Addr} {l c : Nat} {ts : List Tk} {w : World}
end
end Go.Proofs.YtkikgidmioofaaaGreat
/- Layer 13, plainly: the tokens of bytes may be taken; with a byte less they may not; how many bits a block has. -/
namespace Go.Proofs.YtkikgidmioofaaaGreat
open BitsP SymP

theorem tokAt_kind (bs : List UInt8) (lv : Int) (p : Nat) : tokAt bs lv p = (bs.getD p 0, 0, 0) ∨
    ∃ n d : Nat, tokAt bs lv p = (0, n, d) ∧ 3 ≤ n ∧ n ≤ 258 ∧ 1 ≤ d ∧ d ≤ 32768 ∧ d ≤ p ∧ p + n ≤ bs.length := by
  unfold tokAt
  split
  · exact .inl rfl
  · rename_i h
    refine .inr ⟨_, _, rfl, ?_⟩
    rcases bestM_of bs (p : Int) (depthN lv) with h0 | ⟨hd, hn⟩
    · exact absurd (.inl (by rw [h0])) h
    · have h3 := lenI_three hd
      have hb := bestM_le bs (p : Int) (depthN lv)
      obtain ⟨_, hc1, hc2, hc3, hc4, _⟩ := cand_of hd
      rw [hn] at hb ⊢
      have hr := lenI_at bs (a := p) (d := (bestM bs (p : Int) (depthN lv)).2) (by omega) hc2 hc3 (by omega)
      rw [hr] at h3 hb ⊢
      have hle := runM_le bs p (bestM bs (p : Int) (depthN lv)).2 (capM bs p) 0
      have hcap : capM bs p ≤ bs.length - p := by unfold capM; omega
      exact ⟨h3, hb, hc2, hc3, by omega, by omega⟩
theorem tokAt_okT (bs : List UInt8) (lv : Int) (p : Nat) : okT (tokAt bs lv p) := by
  rcases tokAt_kind bs lv p with h | ⟨n, d, h, h1, h2, h3, h4, _⟩
  · rw [h]; exact .inl ⟨rfl, rfl⟩
  · rw [h]; exact .inr ⟨h1, h2, h3, h4, rfl⟩
theorem tokAt_fit {bs : List UInt8} {lv : Int} {p : Nat} (hp : p < bs.length) : p + max (tokAt bs lv p).2.1 1 ≤ bs.length ∧ (tokAt bs lv p).2.2 ≤ p := by
  rcases tokAt_kind bs lv p with h | ⟨n, d, h, h1, h2, h3, h4, h5, h6⟩
  · rw [h]; exact ⟨by simp; omega, Nat.zero_le _⟩
  · rw [h]; exact ⟨by show p + max n 1 ≤ _; omega, h5⟩
theorem toks_okT (bs : List UInt8) (lv : Int) : ∀ (k p : Nat), bs.length - p ≤ k → ∀ t ∈ toks bs lv p, okT t
  | 0, p, h => by rw [toks_end (by omega)]; intro t ht; cases ht
  | k + 1, p, h => by
    by_cases hp : p < bs.length
    · have h1 := tsz_pos (tokAt bs lv p)
      rw [toks_step hp]
      intro t ht
      rcases List.mem_cons.1 ht with rfl | ht
      · exact tokAt_okT _ _ _
      · exact toks_okT bs lv k _ (by omega) t ht
    · rw [toks_end (by omega)]; intro t ht; cases ht
/-- Tokens that are too much somewhere. -/
def tooT (most : Int) : List Tk → Nat → Prop
  | [], _ => False
  | t :: ts, size => t.2.2 ≤ size ∧ (most < ((size + max t.2.1 1 : Nat) : Int) ∨ (((size + max t.2.1 1 : Nat) : Int) ≤ most ∧ tooT most ts (size + max t.2.1 1)))
theorem blkL_too {F : List Int → List Bool → Int × Int × Nat} (hF : FunT F) {al : List Tk} {most : Int} {L R : List Bool} : ∀ (k : Nat) (pre ts : List Tk) (size p : Nat), al = pre ++ ts → ts.length < k → (∀ t ∈ ts, okT t) → tooT most ts size →
    L.drop p = toksB (zN (lensW (wt1 al))) (zN (lensW (wt2 al))) ts ++ (symB (zN (lensW (wt1 al))) 256 ++ R) →
    blkL F (zN (lensW (wt1 al))) (zN (lensW (wt2 al))) L most k pre size p = (5, [], 0)
  | 0, pre, ts, size, p, _, hk, _, _, _ => by omega
  | k + 1, pre, [], size, p, ha, _, _, hg, hd => hg.elim
  | k + 1, pre, t :: ts, size, p, ha, hk, hok, hg, hd => by
    have h1 := hok t List.mem_cons_self
    have hin : t ∈ al := by rw [ha]; simp
    obtain ⟨hdist, hg2⟩ := hg
    obtain ⟨hj, hiff, hne⟩ := joinR_back h1
    obtain ⟨x, hx, h0⟩ := wt1_has hin h1
    rw [tokB_parts, List.append_assoc] at hd
    have hc := clsF_back hF (by rw [wt1_len]; omega) (c := cls1 t) (zr := 257) hx h0 (wd1 h1) (cls1_lt h1).2.2 hd
    have hd2 := drop_more hd
    have hy : UInt8.ofNat t.1.toNat = t.1 := by simp
    have ih := fun p' hg' hd' => blkL_too hF (al := al) (most := most) (L := L) (R := R) k (pre ++ [t]) ts (size + max t.2.1 1) p' (by rw [ha]; simp) (by simp at hk; omega) (fun x hx => hok x (List.mem_cons_of_mem _ hx)) hg' hd'
    by_cases hm : isM t = true
    · have h256 := hiff.2 hm
      obtain ⟨x2, hx2, h02⟩ := wt2_has hin h1 hm
      rw [if_pos hm, List.append_assoc] at hd2
      have hc2 := clsF_back hF (by rw [wt2_len]; omega) (c := cls2 t) (zr := 0) hx2 h02 (wd2 h1 hm) (cls2_lt h1).2.2 hd2
      have hd3 := drop_more hd2
      rw [if_pos h256] at hj
      rw [blkL, hc]
      dsimp only
      rw [if_neg (by simp), if_neg hne, hc2]
      dsimp only
      rw [if_neg (by simp), if_pos h256, if_pos h256, hj]
      dsimp only
      rw [if_neg (by omega)]
      rcases hg2 with hg2 | ⟨hg2, hg3⟩
      · rw [if_pos (by omega)]
      · rw [if_neg (by omega), hy, ih _ hg3 hd3]
    · have h256 : ¬ 256 < (cls1 t).1 := fun h => hm (hiff.1 h)
      rw [if_neg hm, List.nil_append] at hd2
      rw [if_neg h256] at hj
      rw [blkL, hc]
      dsimp only
      rw [if_neg (by simp), if_neg hne, if_neg (fun h => h256 h.1), if_neg h256, if_neg h256, hj, Nat.add_zero]
      dsimp only
      rw [if_neg (by omega)]
      rcases hg2 with hg2 | ⟨hg2, hg3⟩
      · rw [if_pos (by omega)]
      · rw [if_neg (by omega), hy, ih _ hg3 hd2]
theorem blkF_too {F : List Int → List Bool → Int × Int × Nat} (hF : FunT F) {ts : List Tk} (hok : ∀ t ∈ ts, okT t) {most : Int} (hg : tooT most ts 0) {L R : List Bool} {p : Nat} (hd : L.drop p = blkB ts ++ R) : blkF F L p most = (5, [], 0) := by
  have hl1 : (lensW (wt1 ts)).length = 273 := by rw [lensW_len, wt1_len]
  have hl2 : (lensW (wt2 ts)).length = 30 := by rw [lensW_len, wt2_len]
  have hr1 : caR (zN (lensW (wt1 ts))) = true := by
    obtain ⟨x, hx, h0⟩ := wt1_end ts
    exact lensW_caR (by rw [wt1_len]; omega) hx h0
  have hr2 : caR (zN (lensW (wt2 ts))) = true := by
    obtain ⟨s, x, hx, h0⟩ := wt2_some ts hok
    exact lensW_caR (by rw [wt2_len]; omega) hx h0
  have hB : blkB ts = tabP (lensW (wt1 ts)) ++ (tabP (lensW (wt2 ts)) ++ (toksB (zN (lensW (wt1 ts))) (zN (lensW (wt2 ts))) ts ++ symB (zN (lensW (wt1 ts))) 256)) := by unfold blkB; simp only [List.append_assoc]
  rw [hB] at hd
  simp only [List.append_assoc] at hd
  have ht1 := tkF_back hF (by rw [hl1]; omega) (by rw [hl1]; omega) (lensW_le (by rw [wt1_len]; omega)) hd
  have hd2 := drop_more hd
  have ht2 := tkF_back hF (by rw [hl2]; omega) (by rw [hl2]; omega) (lensW_le (by rw [wt2_len]; omega)) hd2
  have hd3 := drop_more hd2
  have hge := toksB_ge (al := ts) ts (fun t ht => ⟨ht, hok t ht⟩)
  have hlen := congrArg List.length hd3
  rw [List.length_drop, List.length_append, List.length_append] at hlen
  have hs1 : 1 ≤ (symB (zN (lensW (wt1 ts))) 256).length := by
    obtain ⟨x, hx, h0⟩ := wt1_end ts
    obtain ⟨n, v, k, hy, _, hs, _, _⟩ := lensW_sym (by rw [wt1_len]; omega) hx h0
    have h2 : symB (zN (lensW (wt1 ts))) 256 = codeB v n := hs
    rw [h2, codeB_len]
    exact hy.one
  have hbl := blkL_too hF (al := ts) (most := most) (L := L) (R := R) (L.length + 1 - (p + (tabP (lensW (wt1 ts))).length + (tabP (lensW (wt2 ts))).length)) [] ts 0 (p + (tabP (lensW (wt1 ts))).length + (tabP (lensW (wt2 ts))).length) rfl (by omega) hok hg hd3
  have hz1 : ((lensW (wt1 ts)).map fun n : Nat => (n : Int)) = zN (lensW (wt1 ts)) := rfl
  have hz2 : ((lensW (wt2 ts)).map fun n : Nat => (n : Int)) = zN (lensW (wt2 ts)) := rfl
  unfold blkF
  rw [ht1]
  dsimp only
  rw [if_neg (by simp), ht2]
  dsimp only
  rw [if_neg (by simp), hl1, hl2, if_neg (by omega), hz1, hz2, if_neg (by rw [hr1, hr2]; simp), hbl]
theorem tab_few {ws : List Nat} (hws : ws.length ≤ 320) (hex : ∃ s x : Nat, ws[s]? = some x ∧ 0 < x) : (tabP (lensW ws)).length ≤ 100000 := by
  obtain ⟨s, x, hx, h0⟩ := hex
  have hv := lensW_le hws
  obtain ⟨t, ht⟩ := partsP_ne (ls := lensW ws) (by rw [lensW_len]; have := (List.getElem?_eq_some_iff.1 hx).1; omega)
  have h2 := partsB_len (lnP_right ht (partsP_all hv t ht)) (partsP (lensW ws) 0)
  have h3 := parts_few (lensW ws)
  rw [lensW_len] at h3
  rw [tabP, List.length_append, List.length_append, bitsOf_length, lensB_len, lnP_len]
  omega
theorem blkB_few {ts : List Tk} (hok : ∀ t ∈ ts, okT t) : (blkB ts).length ≤ 200015 + 56 * ts.length := by
  have h1 := tab_few (ws := wt1 ts) (by rw [wt1_len]; omega) (by obtain ⟨x, h1, h2⟩ := wt1_end ts; exact ⟨256, x, h1, h2⟩)
  have h2 := tab_few (ws := wt2 ts) (by rw [wt2_len]; omega) (wt2_some ts hok)
  have hr1 : caR (zN (lensW (wt1 ts))) = true := by
    obtain ⟨x, hx, h0⟩ := wt1_end ts
    exact lensW_caR (by rw [wt1_len]; omega) hx h0
  have hr2 : caR (zN (lensW (wt2 ts))) = true := by
    obtain ⟨s, x, hx, h0⟩ := wt2_some ts hok
    exact lensW_caR (by rw [wt2_len]; omega) hx h0
  have h3 := toksB_len hr1 hr2 hok
  have h4 := symB_len hr1 256
  rw [blkB, List.length_append, List.length_append, List.length_append]
  omega
end Go.Proofs.YtkikgidmioofaaaGreat
/- Layer 13: a block is taken. -/
namespace Go.Proofs.YtkikgidmioofaaaGreat
open Go.RowKit BitsP SymP

theorem LCa.below_ {w w' : World} {n g : Nat} {zs : List Int} (h : LCa w n g zs) (hb : Below w.heap.size w w') : LCa w' n g zs := h.keep2 (Mod.of_below hb) (fun _ h => h.elim)
set_option maxRecDepth 100000 in
set_option maxHeartbeats 2000000 in
theorem blktake_any (F : List Int → List Bool → Int × Int × Nat) (hF : FunT F) (r base : Nat) (S : Nat → Prop) (bs : List UInt8) (p : Nat) (most : Int) (w : World) (hrd : RdS w r base S bs p) (hbl : bs.length ≤ 1000000) (m0 : -9223372036854775808 ≤ most) (m1 : most ≤ 9223372036854775807) :
    Calls Tryz.prog 53 #[.pointer (some ⟨r, 0, none⟩), .int .i64 most] w
      fun e w' => ∃ (A : Option Addr) (c p' : Nat) (t : Int × List Tk × Nat), blkF F (unpack bs) p most = t ∧ e = .returned (.tuple #[.slice A t.2.1.length c, .int .i64 t.1]) ∧ w'.ownsRow w.heap.size 71 3 (.slice A t.2.1.length c) t.2.1.length (t.2.1.flatMap tcC) ∧ RdS w' r base S bs p' ∧ (t.1 = 0 → p' = t.2.2) ∧ Mod (oneB r) w w' := by
  obtain ⟨hrl0, hp8, _⟩ := rd_low hrd
  have HA := Lib.hid (tkalph_any F hF r base S bs p w hrd hbl)
  clear hrd
  go_enter Tryz.func53, Tryz.ntmps53
  go_wp2_with fail
  refine HA.out.mono ?_
  rintro e w2 ⟨a, b, n, m, er, p2, rfl, hrd2, hm2, ⟨hne, hbk⟩ | ⟨rfl, z1, z2, ga, gb, rfl, rfl, rfl, rfl, h1, h2, hz1, hz2, hla, hlb, hbk⟩⟩
  · have HB := Lib.hid (hbk most)
    have HR2 := Lib.hid hrd2
    have HM2 := Lib.hid hm2
    have HNE := Lib.hid hne
    have t1 : (er != 0) = true := by simpa using hne
    have hbx := (Below.refl w2.heap.size w2).alloc (Nat.le_refl _) (.cells #[.pointer a, .int .i64 n, .pointer b, .int .i64 m] 150)
    have HBX := Lib.hid hbx
    clear hne hbk hrd2 hm2 hbx
    unfold alC
    go_wp2
    refine bodyPost_ret (results_tmp2 rfl _ _ _) rfl ?_
    exact ⟨none, 0, p2, _, HB.out, by rfl, World.ownsRow_nil _ _ _ _, HR2.out.keep (Mod.of_below HBX.out) (fun _ _ h => h), fun h => absurd h HNE.out, HM2.out.then_ ((Mod.of_below HBX.out).mono fun _ h => h.elim)⟩
  · have HB := Lib.hid (hbk most)
    have HM2 := Lib.hid hm2
    have hbx := (Below.refl w2.heap.size w2).alloc (Nat.le_refl _) (.cells #[.pointer (some ⟨ga, 0, none⟩), .int .i64 257, .pointer (some ⟨gb, 0, none⟩), .int .i64 0] 150)
    have hs2 := hm2.size
    have HTS := Lib.hid (tktoks_any F hF r base w.heap.size ga gb S bs p2 most z1 z2 (w2.alloc (.cells #[.pointer (some ⟨ga, 0, none⟩), .int .i64 257, .pointer (some ⟨gb, 0, none⟩), .int .i64 0] 150)) h1 h2 hz1 hz2 (hla.below_ hbx) (hlb.below_ hbx) hrl0 (hrd2.keep (Mod.of_below hbx) (fun _ _ h => h)) hbl m0 m1)
    have HBX := Lib.hid hbx
    clear hbk hrd2 hm2 hbx hla hlb
    unfold alC at HTS ⊢
    go_wp2_with (go_at_call 90; refine HTS.out.mono ?_; rintro e w3 ⟨A3, c3, p3, t3, ht3, rfl, hown3, hrd3, hpe3, hm3⟩; have HT3 := Lib.hid (And.intro ht3 (And.intro hown3 (And.intro hrd3 (And.intro hpe3 hm3)))); clear ht3 hown3 hrd3 hpe3 hm3)
    obtain ⟨ht3, hown3, hrd3, hpe3, hm3⟩ := HT3.out
    refine bodyPost_ret (results_tmp2 rfl _ _ _) rfl ?_
    exact ⟨A3, c3, p3, t3, HB.out.trans ht3, by rfl, own_leT hown3 (by simp; omega), hrd3, hpe3, (HM2.out.then_ ((Mod.of_below HBX.out).mono fun _ h => h.elim)).then_ hm3⟩
end Go.Proofs.YtkikgidmioofaaaGreat
/- Layer 13: the reference's bits of a symbol, and what is behind it. -/
namespace Go.Proofs.YtkikgidmioofaaaGreat
open Go.RowKit BitsP SymP
attribute [local go_sem ↓] Go.wp_at_zero Go.wp_at_succ

end Go.Proofs.YtkikgidmioofaaaGreat
/- Layer 13: the reference's Put. -/
namespace Go.Proofs.YtkikgidmioofaaaGreat
open Go.RowKit BitsP SymP
attribute [local go_sem ↓] Go.wp_at_zero Go.wp_at_succ

end Go.Proofs.YtkikgidmioofaaaGreat
