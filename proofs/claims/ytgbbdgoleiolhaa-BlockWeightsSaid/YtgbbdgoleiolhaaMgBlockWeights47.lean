/- Layer 13: a class is taken. -/
import Derived.Test.YtgbbdgoleiolhaaMgBlockWeightsSBkTkP
import Derived.Test.YtgbbdgoleiolhaaMgBlockWeights45
import Derived.Test.YtgbbdgoleiolhaaMgBlockWeightsSSymLeaf
import Derived.Test.YtgbbdgoleiolhaaMgBlockWeightsSSymJa
import Derived.WalkMore
namespace Go.Proofs.Ytgbbdgoleiolhaa
open Go.RowKit BitsP SymP

theorem takeR_one {zs : List Int} {m : Nat} {U : List Bool} {s e : Int} {on : Nat} (h : TakeR zs m U s e on) (he : e = 0) : 1 ≤ on := by
  rcases h with ⟨t, v, k, hy, _, _, _, _⟩ | ⟨_, _, _, he2⟩
  · exact hy.one
  · rw [he2] at he
    split at he <;> cases he
set_option maxRecDepth 100000 in
set_option maxHeartbeats 1000000 in
theorem tkclass_any (F : List Int → List Bool → Int × Int × Nat) (hF : FunT F) (g r base zr : Nat) (zs : List Int) (S : Nat → Prop) (bs : List UInt8) (p : Nat) (w : World) (hr : caR zs = true) (hz0 : zr ≤ 1000) (h : LC w g zs) (hrd : RdS w r base S bs p) (hbl : bs.length ≤ 1000000) :
    Calls Try.prog 32 #[.pointer (some ⟨r, 0, none⟩), .agg #[.pointer (some ⟨g, 0, none⟩), .int .i64 (zr : Int)]] w
      fun e w' => ∃ p', e = .returned (.tuple #[.agg #[.int .i64 ((clsF F zs zr (unpack bs) p).2.1.1 : Nat), .int .i64 ((clsF F zs zr (unpack bs) p).2.1.2.1 : Nat), .int .u32 ((clsF F zs zr (unpack bs) p).2.1.2.2 : Nat)], .int .i64 (clsF F zs zr (unpack bs) p).1]) ∧ RdS w' r base S bs p' ∧ ((clsF F zs zr (unpack bs) p).1 = 0 → p' = p + (clsF F zs zr (unpack bs) p).2.2 ∧ 1 ≤ (clsF F zs zr (unpack bs) p).2.2 ∧ (clsF F zs zr (unpack bs) p).2.1.1 < zs.length ∧ (clsF F zs zr (unpack bs) p).2.1.2.1 ≤ 13 ∧ (clsF F zs zr (unpack bs) p).2.1.2.2 < 8192) ∧ Mod (oneB r) w w' := by
  obtain ⟨hrl0, hp8, _⟩ := rd_low hrd
  have hb0 : Below w.heap.size w (w.alloc (.cells #[.pointer (some ⟨g, 0, none⟩), .int .i64 (zr : Int)] 61)) := (Below.refl w.heap.size w).alloc (Nat.le_refl _) _
  have hb1 := hb0.alloc (o := .cells #[.int .i64 0, .int .i64 0, .int .u32 0] 47) (by simp)
  obtain ⟨W1, hW1⟩ : ∃ W1, (w.alloc (.cells #[.pointer (some ⟨g, 0, none⟩), .int .i64 (zr : Int)] 61)).alloc (.cells #[.int .i64 0, .int .i64 0, .int .u32 0] 47) = W1 := ⟨_, rfl⟩
  rw [hW1] at hb1
  have HX1 : Hid (W1.heap[w.heap.size]? = some (.cells #[.pointer (some ⟨g, 0, none⟩), .int .i64 (zr : Int)] 61 (0, 0))) := by show _ = _; rw [← hW1]; exact row3_alloc (heap_alloc_new w _) _
  have HY1 : Hid (W1.heap[w.heap.size + 1]? = some (.cells #[.int .i64 0, .int .i64 0, .int .u32 0] 47 (0, 0))) := by show _ = _; rw [← hW1]; have h := heap_alloc_new (w.alloc (.cells #[.pointer (some ⟨g, 0, none⟩), .int .i64 (zr : Int)] 61)) (.cells #[.int .i64 0, .int .i64 0, .int .u32 0] 47); rw [World.size_alloc] at h; exact h
  have c0 : W1.cell? ⟨w.heap.size, 0, none⟩ = some (.pointer (some ⟨g, 0, none⟩)) := cell_of_row _ _ 0 _ _ _ HX1.out
  have HT := Lib.hid (take8_any g r base zs S bs p W1 hr (h.below hb1) (hrd.keep (Mod.of_below hb1) (fun _ _ h => h)) hbl)
  have HM : Hid (Mod (oneB r) w W1) := (Mod.of_below hb1).mono (fun _ h => h.elim)
  have HRL : Hid (r < w.heap.size) := hrl0
  have HTK : Hid (∀ (W : World) (p b : Nat), RdS W r base S bs p → b ≤ 100 → _) := fun W p b hW h1 => rtake_any r base S bs p (b : Int) W hW (by omega) (by omega) (by omega)
  have HSL : Hid (∀ k, S k → k < w.heap.size) := hrd.lt
  clear h hrd hb0 hb1 hrl0
  obtain ⟨L, hL⟩ : ∃ L, unpack bs = L := ⟨_, rfl⟩
  have hLl : L.length = 8 * bs.length := by rw [← hL, unpack_length]
  have HLL := Lib.hid hLl
  have HLE := Lib.hid hL
  rw [hL] at HT ⊢
  clear hL hLl
  have HST : Hid (∀ W : World, Mod (oneB r) w W → ∀ v u x, Mod (oneB r) w (((W.setCell ⟨w.heap.size + 1, 0, none⟩ v).setCell ⟨w.heap.size + 1, 1, none⟩ u).setCell ⟨w.heap.size + 1, 2, none⟩ x)) := fun W hW v u x => ((hW.set _ _ (.inr (Nat.le_succ _))).set _ _ (.inr (Nat.le_succ _))).set _ _ (.inr (Nat.le_succ _))
  have HSR : Hid (∀ (W : World) (q : Nat), RdS W r base S bs q → ∀ v u x, RdS (((W.setCell ⟨w.heap.size + 1, 0, none⟩ v).setCell ⟨w.heap.size + 1, 1, none⟩ u).setCell ⟨w.heap.size + 1, 2, none⟩ x) r base S bs q) := fun W q hW v u x => hW.keep (T := oneB (w.heap.size + 1)) ((((Mod.refl (oneB (w.heap.size + 1)) W).set ⟨w.heap.size + 1, 0, none⟩ v (.inl rfl)).set ⟨w.heap.size + 1, 1, none⟩ u (.inl rfl)).set ⟨w.heap.size + 1, 2, none⟩ x (.inl rfl)) (fun k hk h => by have h2 : k = w.heap.size + 1 := h; have := HSL.out k hk; omega)
  go_enter Try.func32, Try.ntmps32
  go_wp2_with fail
  refine HT.out.mono ?_
  rintro e w2 ⟨m, on, s, er, rfl, hmx, htk, hrd, hmod⟩
  have hx2 := hmod.keep HX1.out (fun h => by have h2 : w.heap.size = r := h; have := HRL.out; omega)
  have hy2 := hmod.keep HY1.out (fun h => by have h2 : w.heap.size + 1 = r := h; have := HRL.out; omega)
  have HK := Lib.hid (kindsT hF hmx htk)
  have HONE : Hid (er = 0 → 1 ≤ on) := fun h => takeR_one htk h
  have HM2 := Lib.hid (HM.out.then_ hmod)
  have HRD := Lib.hid hrd
  have HY2 := Lib.hid hy2
  have d1 : w2.cell? ⟨w.heap.size, 1, none⟩ = some (.int .i64 (zr : Int)) := cell_of_row _ _ 1 _ _ _ hx2
  have b0 : w2.cell? ⟨w.heap.size + 1, 0, none⟩ = some (.int .i64 0) := cell_of_row _ _ 0 _ _ _ hy2
  have b1 : w2.cell? ⟨w.heap.size + 1, 1, none⟩ = some (.int .i64 0) := cell_of_row _ _ 1 _ _ _ hy2
  have b2 : w2.cell? ⟨w.heap.size + 1, 2, none⟩ = some (.int .u32 0) := cell_of_row _ _ 2 _ _ _ hy2
  have f0 : w2.frozen? ⟨w.heap.size + 1, 0, none⟩ = false := frozen_of_row _ _ 0 _ _ hy2
  have f1 : w2.frozen? ⟨w.heap.size + 1, 1, none⟩ = false := frozen_of_row _ _ 1 _ _ hy2
  have f2 : w2.frozen? ⟨w.heap.size + 1, 2, none⟩ = false := frozen_of_row _ _ 2 _ _ hy2
  clear hmx htk hrd hmod hx2 hy2
  rcases HK.out with ⟨rfl, t, rfl, htl, hon, hf⟩ | ⟨hne, rfl, hf⟩
  · have HF := Lib.hid hf
    have hz := (caR_len hr).1
    have hUl : (L.drop p).length = 8 * bs.length - p := by rw [List.length_drop, HLL.out]
    rw [hUl] at hon
    obtain ⟨sb, hsb⟩ : ∃ sb, wdF zr t = sb := ⟨_, rfl⟩
    have hsb13 : sb ≤ 13 := by rw [← hsb]; exact wdF_le zr t
    have HSB := Lib.hid hsb
    have HBA : Hid (∀ W : World, ∃ v ok, Calls Try.prog 56 #[.int .i64 ((t : Int) - (zr : Int))] W fun e w' => e = .returned (.tuple #[.int .i64 v, .int .i64 (sb : Int), .bool ok]) ∧ W = w') := fun W => by
      by_cases h30 : zr ≤ t ∧ t - zr < 30
      · have h := base_in (t - zr) W h30.2
        have e1 : ((t - zr : Nat) : Int) = (t : Int) - (zr : Int) := by omega
        have e2 : bitsC (t - zr) = sb := by rw [← HSB.out, wdF, if_pos h30]
        rw [e1, e2] at h
        exact ⟨_, _, h⟩
      · have h := base_out ((t : Int) - (zr : Int)) W (by omega)
        have e2 : sb = 0 := by rw [← HSB.out, wdF, if_neg h30]
        rw [e2]
        exact ⟨_, _, h⟩
    have hwr : IntKind.i64.wrap ((t : Int) - (zr : Int)) = (t : Int) - (zr : Int) := IntWalk.i64_in _ (by omega)
    obtain ⟨bv, bok, hba⟩ := HBA.out w2
    have HBA2 := Lib.hid hba
    have HTK2 := Lib.hid (HTK.out w2 (p + on) sb HRD.out (by omega))
    rw [cnt_nat (by omega)] at HTK2
    clear HK HTK hf hsb HBA hba
    by_cases hfit : p + on + sb ≤ 8 * bs.length
    · obtain ⟨y, hy⟩ : ∃ y, numA L (p + on) sb = y := ⟨_, rfl⟩
      have hyb : y < 8192 := by
        have h1 := numA_lt L (p + on) sb
        have h2 : 2 ^ sb ≤ 2 ^ 13 := Nat.pow_le_pow_right (by decide) hsb13
        omega
      have HP : Hid (clsF F zs zr L p = (0, (t, sb, y), on + sb)) := by
        show _ = _
        unfold clsF
        rw [HF.out]
        dsimp only
        rw [if_neg (by simp), Int.toNat_natCast, HSB.out, if_neg (by rw [HLL.out]; omega), hy]
      have hty : takes bs (p + on) sb = y := by rw [numA_takes hfit, HLE.out, hy]
      rw [(fits_yes hfit).1, (fits_yes hfit).2, hty] at HTK2
      have HA := Lib.hid (show p + on + sb = p + (on + sb) by omega)
      clear hfit hy hty
      go_wp2_with (first
        | (go_at_call 56; refine HBA2.out.mono ?_; rintro e w' ⟨rfl, rfl⟩)
        | (go_at_call 51; refine HTK2.out.mono ?_; rintro e w3 ⟨rfl, hrd3, hm3⟩; have hy3 := hm3.keep HY2.out (fun h => by have h2 : w.heap.size + 1 = r := h; have := HRL.out; omega); have HR3 := Lib.hid hrd3; have HM3 := Lib.hid (HM2.out.then_ hm3); have b0' : w3.cell? ⟨w.heap.size + 1, 0, none⟩ = some (.int .i64 0) := cell_of_row _ _ 0 _ _ _ hy3; have b1' : w3.cell? ⟨w.heap.size + 1, 1, none⟩ = some (.int .i64 0) := cell_of_row _ _ 1 _ _ _ hy3; have b2' : w3.cell? ⟨w.heap.size + 1, 2, none⟩ = some (.int .u32 0) := cell_of_row _ _ 2 _ _ _ hy3; have f0' : w3.frozen? ⟨w.heap.size + 1, 0, none⟩ = false := frozen_of_row _ _ 0 _ _ hy3; have f1' : w3.frozen? ⟨w.heap.size + 1, 1, none⟩ = false := frozen_of_row _ _ 1 _ _ hy3; have f2' : w3.frozen? ⟨w.heap.size + 1, 2, none⟩ = false := frozen_of_row _ _ 2 _ _ hy3; clear hrd3 hm3 hy3))
      refine bodyPost_ret (v := .tuple #[.agg #[.int .i64 (t : Int), .int .i64 (sb : Int), .int .u32 (y : Int)], .int .i64 0]) ?_ rfl ⟨p + (on + sb), by rw [HP.out], ?_, fun _ => by rw [HP.out]; exact ⟨rfl, Nat.le_trans (HONE.out trivial) (Nat.le_add_right _ _), htl, hsb13, hyb⟩, ?_⟩
      · rw [results_cell_tmp rfl]
        go_simp
        try rfl
      · rw [← HA.out]
        exact HSR.out _ _ HR3.out _ _ _
      · exact HST.out _ HM3.out _ _ _
    · have HP : Hid (clsF F zs zr L p = (2, (0, 0, 0), 0)) := by
        show _ = _
        unfold clsF
        rw [HF.out]
        dsimp only
        rw [if_neg (by simp), Int.toNat_natCast, HSB.out, if_pos (by rw [HLL.out]; omega)]
      rw [(fits_no hfit).1, (fits_no hfit).2] at HTK2
      clear hfit
      go_wp2_with (first
        | (go_at_call 56; refine HBA2.out.mono ?_; rintro e w' ⟨rfl, rfl⟩)
        | (go_at_call 51; refine HTK2.out.mono ?_; rintro e w3 ⟨rfl, hrd3, hm3⟩; have hy3 := hm3.keep HY2.out (fun h => by have h2 : w.heap.size + 1 = r := h; have := HRL.out; omega); have HR3 := Lib.hid hrd3; have HM3 := Lib.hid (HM2.out.then_ hm3); have b0' : w3.cell? ⟨w.heap.size + 1, 0, none⟩ = some (.int .i64 0) := cell_of_row _ _ 0 _ _ _ hy3; have b1' : w3.cell? ⟨w.heap.size + 1, 1, none⟩ = some (.int .i64 0) := cell_of_row _ _ 1 _ _ _ hy3; have b2' : w3.cell? ⟨w.heap.size + 1, 2, none⟩ = some (.int .u32 0) := cell_of_row _ _ 2 _ _ _ hy3; have f0' : w3.frozen? ⟨w.heap.size + 1, 0, none⟩ = false := frozen_of_row _ _ 0 _ _ hy3; have f1' : w3.frozen? ⟨w.heap.size + 1, 1, none⟩ = false := frozen_of_row _ _ 1 _ _ hy3; have f2' : w3.frozen? ⟨w.heap.size + 1, 2, none⟩ = false := frozen_of_row _ _ 2 _ _ hy3; clear hrd3 hm3 hy3))
      refine bodyPost_ret (v := .tuple #[.agg #[.int .i64 0, .int .i64 0, .int .u32 0], .int .i64 2]) ?_ rfl ⟨_, by rw [HP.out]; rfl, HSR.out _ _ HR3.out _ _ _, fun h => (by rw [HP.out] at h; cases h), HST.out _ HM3.out _ _ _⟩
      rw [results_cell_tmp rfl]
      go_simp
      try rfl
  · have HP : Hid (clsF F zs zr L p = (er, (0, 0, 0), 0)) := by
      show _ = _
      unfold clsF
      rw [hf]
      exact if_pos hne
    have t1 : (er != 0) = true := by simpa using hne
    have HNE := Lib.hid hne
    clear HK hf hne
    go_wp2
    refine bodyPost_ret (v := .tuple #[.agg #[.int .i64 0, .int .i64 0, .int .u32 0], .int .i64 er]) ?_ rfl ⟨_, by rw [HP.out]; rfl, HSR.out _ _ HRD.out _ _ _, fun h => absurd (by rw [HP.out] at h; exact h) HNE.out, HST.out _ HM2.out _ _ _⟩
    rw [results_cell_tmp rfl]
    go_simp
    try rfl
end Go.Proofs.Ytgbbdgoleiolhaa
/- Layer 13: both tables are taken. -/
namespace Go.Proofs.Ytgbbdgoleiolhaa
open Go.RowKit BitsP SymP

/-- Two alphabets' cells. -/
def alC (a : Value) (n : Int) (b : Value) (m : Int) : Array Value := #[a, .int .i64 n, b, .int .i64 m]
theorem row4_facts {w : World} {g : Nat} {a : Value} {n : Int} {b : Value} {m : Int} (h : w.heap[g]? = some (.cells (alC a n b m) 62 (0, 0))) :
    (w.cell? ⟨g, 0, none⟩ = some a ∧ w.cell? ⟨g, 1, none⟩ = some (.int .i64 n) ∧ w.cell? ⟨g, 2, none⟩ = some b ∧ w.cell? ⟨g, 3, none⟩ = some (.int .i64 m)) ∧ (w.frozen? ⟨g, 0, none⟩ = false ∧ w.frozen? ⟨g, 1, none⟩ = false ∧ w.frozen? ⟨g, 2, none⟩ = false ∧ w.frozen? ⟨g, 3, none⟩ = false) :=
  ⟨⟨cell_of_row _ _ 0 _ _ _ h, cell_of_row _ _ 1 _ _ _ h, cell_of_row _ _ 2 _ _ _ h, cell_of_row _ _ 3 _ _ _ h⟩, frozen_of_row _ _ 0 _ _ h, frozen_of_row _ _ 1 _ _ h, frozen_of_row _ _ 2 _ _ h, frozen_of_row _ _ 3 _ _ h⟩
/-- What takeAlphabets leaves. -/
def AlPost (F : List Int → List Bool → Int × Int × Nat) (w w' : World) (r base : Nat) (S : Nat → Prop) (bs : List UInt8) (p : Nat) (e : Ending) : Prop :=
  ∃ (a b : Option Addr) (n m er : Int) (p' : Nat), e = .returned (.tuple #[.agg (alC (.pointer a) n (.pointer b) m), .int .i64 er]) ∧ RdS w' r base S bs p' ∧ Mod (oneB r) w w' ∧
    ((er ≠ 0 ∧ ∀ most, blkF F (unpack bs) p most = (er, [], 0)) ∨
     (er = 0 ∧ ∃ (z1 z2 : List Int) (ga gb : Nat), a = some ⟨ga, 0, none⟩ ∧ b = some ⟨gb, 0, none⟩ ∧ n = 257 ∧ m = 0 ∧ caR z1 = true ∧ caR z2 = true ∧ z1.length = 273 ∧ z2.length = 30 ∧ LCa w' w.heap.size ga z1 ∧ LCa w' w.heap.size gb z2 ∧
       ∀ most, blkF F (unpack bs) p most = blkL F z1 z2 (unpack bs) most ((unpack bs).length + 1 - p') [] 0 p'))
set_option maxRecDepth 100000 in
set_option maxHeartbeats 2000000 in
theorem tkalph_any (F : List Int → List Bool → Int × Int × Nat) (hF : FunT F) (r base : Nat) (S : Nat → Prop) (bs : List UInt8) (p : Nat) (w : World) (hrd : RdS w r base S bs p) (hbl : bs.length ≤ 1000000) :
    Calls Try.prog 19 #[.pointer (some ⟨r, 0, none⟩)] w fun e w' => AlPost F w w' r base S bs p e := by
  obtain ⟨hrl0, hp8, _⟩ := rd_low hrd
  obtain ⟨W1, hW1⟩ : ∃ W1, w.alloc (.cells #[.pointer none, .int .i64 0, .pointer none, .int .i64 0] 62) = W1 := ⟨_, rfl⟩
  have hb1 : Below w.heap.size w W1 := by rw [← hW1]; exact (Below.refl _ w).alloc (Nat.le_refl _) _
  have HX1 : Hid (W1.heap[w.heap.size]? = some (.cells (alC (.pointer none) 0 (.pointer none) 0) 62 (0, 0))) := by show _ = _; rw [← hW1]; exact heap_alloc_new w _
  have HM : Hid (Mod (oneB r) w W1) := (Mod.of_below hb1).mono (fun _ h => h.elim)
  have HRL : Hid (r < w.heap.size) := hrl0
  have hs1 : w.heap.size < W1.heap.size := by rw [← hW1]; simp
  have HT := Lib.hid (rntake_any F hF r base S bs p W1 (hrd.keep (Mod.of_below hb1) (fun _ _ h => h)) hbl)
  have HT2 : Hid (∀ (W : World) (p' : Nat), RdS W r base S bs p' → _) := fun W p' hW => rntake_any F hF r base S bs p' W hW hbl
  have HSL : Hid (∀ k, S k → k < w.heap.size) := hrd.lt
  have HKP : Hid (∀ (W W' : World), W.heap[w.heap.size]? = some (.cells (alC (.pointer none) 0 (.pointer none) 0) 62 (0, 0)) → Mod (oneB r) W W' → W'.heap[w.heap.size]? = some (.cells (alC (.pointer none) 0 (.pointer none) 0) 62 (0, 0))) := fun W W' h hm => hm.keep h (fun h => by have h2 : w.heap.size = r := h; have := HRL.out; omega)
  have HST : Hid (∀ W : World, Mod (oneB r) w W → ∀ a b c d, Mod (oneB r) w ((((W.setCell ⟨w.heap.size, 0, none⟩ a).setCell ⟨w.heap.size, 1, none⟩ b).setCell ⟨w.heap.size, 2, none⟩ c).setCell ⟨w.heap.size, 3, none⟩ d)) := fun W hW a b c d => (((hW.set _ _ (.inr (Nat.le_refl _))).set _ _ (.inr (Nat.le_refl _))).set _ _ (.inr (Nat.le_refl _))).set _ _ (.inr (Nat.le_refl _))
  have HSM : Hid (∀ (W : World) a b c d, Mod (oneB w.heap.size) W ((((W.setCell ⟨w.heap.size, 0, none⟩ a).setCell ⟨w.heap.size, 1, none⟩ b).setCell ⟨w.heap.size, 2, none⟩ c).setCell ⟨w.heap.size, 3, none⟩ d)) := fun W a b c d => ((((Mod.refl (oneB w.heap.size) W).set ⟨w.heap.size, 0, none⟩ a (.inl rfl)).set ⟨w.heap.size, 1, none⟩ b (.inl rfl)).set ⟨w.heap.size, 2, none⟩ c (.inl rfl)).set ⟨w.heap.size, 3, none⟩ d (.inl rfl)
  have HSR : Hid (∀ (W : World) (q : Nat), RdS W r base S bs q → ∀ a b c d, RdS ((((W.setCell ⟨w.heap.size, 0, none⟩ a).setCell ⟨w.heap.size, 1, none⟩ b).setCell ⟨w.heap.size, 2, none⟩ c).setCell ⟨w.heap.size, 3, none⟩ d) r base S bs q) := fun W q hW a b c d => hW.keep (HSM.out W a b c d) (fun k hk h => by have h2 : k = w.heap.size := h; have := HSL.out k hk; omega)
  have HBK : Hid (∀ most, blkF F (unpack bs) p most = blkF F (unpack bs) p most) := fun _ => rfl
  clear hrd hb1
  go_enter Try.func19, Try.ntmps19
  go_wp2_with fail
  refine HT.out.mono ?_
  rintro e w2 ⟨A2, c2, p2, rfl, hown2, hrd2, hpe2, hm2⟩
  have HO2 := Lib.hid hown2
  have HR2 := Lib.hid hrd2
  have HM2 := Lib.hid (HM.out.then_ hm2)
  have HX2 := Lib.hid (HKP.out _ _ HX1.out hm2)
  have HPE2 := Lib.hid hpe2
  have hs2 := hm2.size
  obtain ⟨⟨c20, c21, c22, c23⟩, f20, f21, f22, f23⟩ := row4_facts HX2.out
  clear hown2 hrd2 hm2 hpe2 HT
  obtain ⟨ta, hta⟩ : ∃ ta, tkF F (unpack bs) p = ta := ⟨_, rfl⟩
  have HTA := Lib.hid hta
  rw [hta] at HO2 HPE2 ⊢
  clear hta
  obtain ⟨er1, ns1, pe1⟩ := ta
  dsimp only at HO2 HPE2 ⊢
  by_cases he1 : er1 = 0
  · subst he1
    obtain rfl := HPE2.out rfl
    have HT3 := Lib.hid (HT2.out w2 _ HR2.out)
    clear HPE2
    go_wp2_with fail
    refine HT3.out.mono ?_
    rintro e w3 ⟨A3, c3, p3, rfl, hown3, hrd3, hpe3, hm3⟩
    have HO3 := Lib.hid hown3
    have HR3 := Lib.hid hrd3
    have HM3 := Lib.hid (HM2.out.then_ hm3)
    have HX3 := Lib.hid (HKP.out _ _ HX2.out hm3)
    have HPE3 := Lib.hid hpe3
    have HO23 := Lib.hid (own_keep HO2.out hm3 (fun k hk hS => by have h2 : k = r := hS; have := own_base HO2.out k hk; have := HRL.out; omega))
    have hs3 := hm3.size
    obtain ⟨⟨c30, c31, c32, c33⟩, f30, f31, f32, f33⟩ := row4_facts HX3.out
    clear hown3 hrd3 hm3 hpe3 HT3 HT2 c20 c21 c22 c23 f20 f21 f22 f23
    obtain ⟨tb, htb⟩ : ∃ tb, tkF F (unpack bs) p2 = tb := ⟨_, rfl⟩
    have HTB := Lib.hid htb
    rw [htb] at HO3 HPE3 ⊢
    clear htb
    obtain ⟨er2, ns2, pe2⟩ := tb
    dsimp only at HO3 HPE3 ⊢
    by_cases he2 : er2 = 0
    · subst he2
      obtain rfl := HPE3.out rfl
      clear HPE3
      obtain ⟨l1, hl1⟩ : ∃ l1, ns1.length = l1 := ⟨_, rfl⟩
      obtain ⟨l2, hl2⟩ : ∃ l2, ns2.length = l2 := ⟨_, rfl⟩
      have HL1 := Lib.hid hl1
      have HL2 := Lib.hid hl2
      rw [hl1] at HO2 HO23 ⊢
      rw [hl2] at HO3 ⊢
      clear hl1 hl2
      by_cases hlen : l1 ≠ 273 ∨ l2 ≠ 30
      · have HB : Hid (∀ most, blkF F (unpack bs) p most = (3, [], 0)) := fun most => by
          unfold blkF
          rw [HTA.out]
          dsimp only
          rw [if_neg (by simp), HTB.out]
          dsimp only
          rw [if_neg (by simp), HL1.out, HL2.out, if_pos hlen]
        have t1 : ((l1 : Int) != 273) = true ∨ (((l1 : Int) != 273) = false ∧ ((l2 : Int) != 30) = true) := by
          by_cases h1 : l1 = 273
          · exact .inr ⟨by simp; omega, by simp; omega⟩
          · exact .inl (by simp; omega)
        clear hlen
        rcases t1 with t1 | ⟨t1, t2⟩
        · go_wp2
          refine bodyPost_ret (v := .tuple #[.agg (alC (.pointer none) 0 (.pointer none) 0), .int .i64 3]) ?_ rfl ⟨_, _, _, _, 3, p3, rfl, ?_, ?_, .inl ⟨by decide, HB.out⟩⟩
          · rw [results_cell_tmp rfl]
            go_simp
            try rfl
          · first | exact HR3.out | exact HSR.out _ _ HR3.out _ _ _ _
          · first | exact HM3.out | exact HST.out _ HM3.out _ _ _ _
        · go_wp2
          refine bodyPost_ret (v := .tuple #[.agg (alC (.pointer none) 0 (.pointer none) 0), .int .i64 3]) ?_ rfl ⟨_, _, _, _, 3, p3, rfl, ?_, ?_, .inl ⟨by decide, HB.out⟩⟩
          · rw [results_cell_tmp rfl]
            go_simp
            try rfl
          · first | exact HR3.out | exact HSR.out _ _ HR3.out _ _ _ _
          · first | exact HM3.out | exact HST.out _ HM3.out _ _ _ _
      · obtain ⟨rfl, rfl⟩ : l1 = 273 ∧ l2 = 30 := by omega
        clear hlen
        obtain ⟨z1, hz1⟩ : ∃ z1 : List Int, (ns1.map fun n : Nat => (n : Int)) = z1 := ⟨_, rfl⟩
        obtain ⟨z2, hz2⟩ : ∃ z2 : List Int, (ns2.map fun n : Nat => (n : Int)) = z2 := ⟨_, rfl⟩
        have HZ1 := Lib.hid hz1
        have HZ2 := Lib.hid hz2
        have hzl1 : z1.length = 273 := by rw [← hz1, List.length_map]; exact HL1.out
        have hzl2 : z2.length = 30 := by rw [← hz2, List.length_map]; exact HL2.out
        have HC1 : Hid (Cells w3 w3.heap.size A2 (z1.map ic)) := by show Cells _ _ _ _; rw [← hz1, nCs_ic]; exact Cells.of_own HO23.out
        have HC2 : Hid (Cells w3 w3.heap.size A3 (z2.map ic)) := by show Cells _ _ _ _; rw [← hz2, nCs_ic]; exact Cells.of_own HO3.out
        have HB : Hid (∀ most, blkF F (unpack bs) p most = if caR z1 = false ∨ caR z2 = false then (13, [], 0) else blkL F z1 z2 (unpack bs) most ((unpack bs).length + 1 - p3) [] 0 p3) := fun most => by
          unfold blkF
          rw [HTA.out]
          dsimp only
          rw [if_neg (by simp), HTB.out]
          dsimp only
          rw [if_neg (by simp), HL1.out, HL2.out, if_neg (by omega), HZ1.out, HZ2.out]
        clear hz1 hz2
        cases hr1 : caR z1 with
        | false =>
          have HN := Lib.hid (new_no A2 273 c2 z1 w3.heap.size w3 hzl1 (by omega) HC1.out hr1)
          have HB2 : Hid (∀ most, blkF F (unpack bs) p most = (13, [], 0)) := fun most => by rw [HB.out, if_pos (.inl hr1)]
          clear hr1 HB
          go_wp2_with (go_at_call 27; refine HN.out.mono ?_; rintro e w4 ⟨rfl, rfl⟩)
          refine bodyPost_ret (v := .tuple #[.agg (alC (.pointer none) 0 (.pointer none) 0), .int .i64 13]) ?_ rfl ⟨_, _, _, _, 13, p3, rfl, ?_, ?_, .inl ⟨by decide, HB2.out⟩⟩
          · rw [results_cell_tmp rfl]
            go_simp
            try rfl
          · first | exact HR3.out | exact HSR.out _ _ HR3.out _ _ _ _
          · first | exact HM3.out | exact HST.out _ HM3.out _ _ _ _
        | true =>
          have HN := Lib.hid (new_low A2 273 c2 z1 w3.heap.size w3 hzl1 (by omega) HC1.out (Nat.le_refl _) hr1)
          have HR1 := Lib.hid hr1
          rw [hr1] at HB
          clear hr1
          go_wp2_with fail
          refine HN.out.mono ?_
          rintro e w4 ⟨ga, rfl, hla, hb4⟩
          have HLA := Lib.hid hla
          have HM4 := Lib.hid (HM3.out.then_ ((Mod.of_below hb4).mono fun _ h => h.elim))
          have HR4 := Lib.hid (HR3.out.keep (Mod.of_below hb4) (fun _ _ h => h))
          have HC4 := Lib.hid (HC2.out.below hb4 (Nat.le_refl _))
          have HX4 := Lib.hid (show w4.heap[w.heap.size]? = _ from (hb4.block w.heap.size (Array.getElem?_eq_some_iff.1 HX3.out).1).trans HX3.out)
          have hs4 := hb4.size
          obtain ⟨⟨c40, c41, c42, c43⟩, f40, f41, f42, f43⟩ := row4_facts HX4.out
          clear hla hb4 HN c30 c31 c32 c33 f30 f31 f32 f33
          cases hr2 : caR z2 with
          | false =>
            have HN := Lib.hid (new_no A3 30 c3 z2 w3.heap.size w4 hzl2 (by omega) HC4.out hr2)
            have HB2 : Hid (∀ most, blkF F (unpack bs) p most = (13, [], 0)) := fun most => by rw [HB.out, if_pos (.inr hr2)]
            clear hr2 HB
            go_wp2_with (go_at_call 27; refine HN.out.mono ?_; rintro e w5 ⟨rfl, rfl⟩)
            refine bodyPost_ret (v := .tuple #[.agg (alC (.pointer (some ⟨ga, 0, none⟩)) 257 (.pointer none) 0), .int .i64 13]) ?_ rfl ⟨_, _, _, _, 13, p3, rfl, ?_, ?_, .inl ⟨by decide, HB2.out⟩⟩
            · rw [results_cell_tmp rfl]
              go_simp
              try rfl
            · exact HSR.out _ _ HR4.out _ _ _ _
            · exact HST.out _ HM4.out _ _ _ _
          | true =>
            have HN := Lib.hid (new_low A3 30 c3 z2 w3.heap.size w4 hzl2 (by omega) HC4.out hs4 hr2)
            have HR2' := Lib.hid hr2
            have HB2 : Hid (∀ most, blkF F (unpack bs) p most = blkL F z1 z2 (unpack bs) most ((unpack bs).length + 1 - p3) [] 0 p3) := fun most => by rw [HB.out, if_neg (by rw [hr2]; simp)]
            clear hr2 HB
            go_wp2_with (go_at_call 27; refine HN.out.mono ?_; rintro e w5 ⟨gb, rfl, hlb, hb5⟩; have HLB := Lib.hid hlb; have HLA5 := Lib.hid (HLA.out.keep2 (Mod.of_below hb5) (fun _ h => h.elim)); have HM5 := Lib.hid (HM4.out.then_ ((Mod.of_below hb5).mono fun _ h => h.elim)); have HR5 := Lib.hid (HR4.out.keep (Mod.of_below hb5) (fun _ _ h => h)); obtain ⟨⟨c50, c51, c52, c53⟩, f50, f51, f52, f53⟩ := row4_facts ((hb5.block w.heap.size (Array.getElem?_eq_some_iff.1 HX4.out).1).trans HX4.out); clear hlb hb5)
            refine bodyPost_ret (v := .tuple #[.agg (alC (.pointer (some ⟨ga, 0, none⟩)) 257 (.pointer (some ⟨gb, 0, none⟩)) 0), .int .i64 0]) ?_ rfl ⟨_, _, _, _, 0, p3, rfl, ?_, ?_, .inr ⟨rfl, z1, z2, ga, gb, rfl, rfl, rfl, rfl, HR1.out, HR2'.out, hzl1, hzl2, ?_, ?_, HB2.out⟩⟩
            · rw [results_cell_tmp rfl]
              go_simp
              try rfl
            · exact HSR.out _ _ HR5.out _ _ _ _
            · exact HST.out _ HM5.out _ _ _ _
            · exact (HLA5.out.keep2 (HSM.out _ _ _ _ _) (fun k hk => by have h2 : k = w.heap.size := hk; omega)).lower (by omega)
            · exact (HLB.out.keep2 (HSM.out _ _ _ _ _) (fun k hk => by have h2 : k = w.heap.size := hk; omega)).lower (by omega)
    · have HB : Hid (∀ most, blkF F (unpack bs) p most = (er2, [], 0)) := fun most => by
        unfold blkF
        rw [HTA.out]
        dsimp only
        rw [if_neg (by simp), HTB.out]
        exact if_pos he2
      have t1 : (er2 != 0) = true := by simpa using he2
      have HE2 := Lib.hid he2
      clear he2 HPE3
      go_wp2
      refine bodyPost_ret (v := .tuple #[.agg (alC (.pointer none) 0 (.pointer none) 0), .int .i64 er2]) ?_ rfl ⟨_, _, _, _, er2, p3, rfl, ?_, ?_, .inl ⟨HE2.out, HB.out⟩⟩
      · rw [results_cell_tmp rfl]
        go_simp
        try rfl
      · first | exact HR3.out | exact HSR.out _ _ HR3.out _ _ _ _
      · first | exact HM3.out | exact HST.out _ HM3.out _ _ _ _
  · have HB : Hid (∀ most, blkF F (unpack bs) p most = (er1, [], 0)) := fun most => by
      unfold blkF
      rw [HTA.out]
      exact if_pos he1
    have t1 : (er1 != 0) = true := by simpa using he1
    have HE1 := Lib.hid he1
    clear he1 HPE2
    go_wp2
    refine bodyPost_ret (v := .tuple #[.agg (alC (.pointer none) 0 (.pointer none) 0), .int .i64 er1]) ?_ rfl ⟨_, _, _, _, er1, p2, rfl, ?_, ?_, .inl ⟨HE1.out, HB.out⟩⟩
    · rw [results_cell_tmp rfl]
      go_simp
      try rfl
    · first | exact HR2.out | exact HSR.out _ _ HR2.out _ _ _ _
    · first | exact HM2.out | exact HST.out _ HM2.out _ _ _ _
end Go.Proofs.Ytgbbdgoleiolhaa
/- Layer 13: tokens are taken. -/
namespace Go.Proofs.Ytgbbdgoleiolhaa
open Go.RowKit BitsP SymP

/-- A token's cells. -/
def tcC (t : Tk) : List Value := [.int .u8 (t.1.toNat : Int), .int .i64 (t.2.1 : Int), .int .i64 (t.2.2 : Int)]
theorem tcElem : Elem Try.prog 22 39 (.agg #[.int .u8 0, .int .i64 0, .int .i64 0]) 3 24 := Elem.of Try.underlying22 (by kernel_rfl) (by kernel_rfl) (by omega)
/-- What the loop keeps: the tokens, the reader, the alphabets. -/
structure TsI (w W : World) (r base : Nat) (S : Nat → Prop) (bs : List UInt8) (p ga gb : Nat) (v : Value) (ts : List Tk) : Prop where
  row : W.ownsRow (w.heap.size + 1) 39 3 v ts.length (ts.flatMap tcC)
  rd : RdS W r base S bs p
  mod : Mod (oneB r) w W
  box : W.heap[w.heap.size]? = some (.cells (alC (.pointer (some ⟨ga, 0, none⟩)) 257 (.pointer (some ⟨gb, 0, none⟩)) 0) 62 (0, 0))
section
variable {w W W' : World} {r base p p' ga gb : Nat} {S : Nat → Prop} {bs : List UInt8} {v v' : Value} {ts ts' : List Tk}
theorem TsI.part (h : TsI w W r base S bs p ga gb v ts) (hr : r < w.heap.size) (hm : Mod (oneB r) W W') (hrd : RdS W' r base S bs p') : TsI w W' r base S bs p' ga gb v ts :=
  ⟨own_keep h.row hm (fun k hk hs => by have h2 : k = r := hs; have := own_base h.row k hk; omega), hrd, h.mod.then_ hm, hm.keep h.box (fun hs => by have h2 : w.heap.size = r := hs; omega)⟩
theorem TsI.below (h : TsI w W r base S bs p ga gb v ts) (hb : Below W.heap.size W W') : TsI w W' r base S bs p ga gb v ts :=
  ⟨own_keep h.row (Mod.of_below hb) (fun _ _ h => h), h.rd.keep (Mod.of_below hb) (fun _ _ h => h), h.mod.then_ ((Mod.of_below hb).mono fun _ h => h.elim), (hb.block _ (Array.getElem?_eq_some_iff.1 h.box).1).trans h.box⟩
/-- A block that is none of these changes. -/
theorem TsI.other {g : Nat} (h : TsI w W r base S bs p ga gb v ts) (hSL : ∀ k, S k → k < w.heap.size) (hg : w.heap.size < g) (hv : v.ownBlock ≠ some g) (hm : Mod (oneB g) W W') : TsI w W' r base S bs p ga gb v ts :=
  ⟨own_keep h.row hm (fun k hk hs => by have h2 : k = g := hs; exact hv (h2 ▸ hk)), h.rd.keep hm (fun k hk hs => by have h2 : k = g := hs; have := hSL k hk; omega), h.mod.trans hm (fun k hs => .inr (by have h2 : k = g := hs; omega)), hm.keep h.box (fun hs => by have h2 : w.heap.size = g := hs; omega)⟩
theorem TsI.app {m : Nat} {xs : List Value} (h : TsI w W r base S bs p ga gb v ts) (hSL : ∀ k, S k → k < w.heap.size) (ha : App W (w.heap.size + 1) 39 3 v m xs W' v') (hm : m = ts'.length) (hx : xs = ts'.flatMap tcC) : TsI w W' r base S bs p ga gb v' ts' := by
  subst hm hx
  exact ⟨ha.own, h.rd.keep (Mod.of_app ha) (fun k hk hs => by have := hSL k hk; have := own_base h.row k hs; omega), h.mod.trans (Mod.of_app ha) (fun k hk => .inr (by have := own_base h.row k hk; omega)), (Mod.of_app ha).keep h.box (fun hk => by have := own_base h.row _ hk; omega)⟩
end
/-- A row in memory. -/
def RowB (W : World) (R : Nat) (c1 c2 : Nat × Nat × Nat) (m : Bool) : Prop := W.heap[R]? = some (.cells #[.int .i64 (c1.1 : Int), .int .i64 (c1.2.1 : Int), .int .u32 (c1.2.2 : Int), .int .i64 (c2.1 : Int), .int .i64 (c2.2.1 : Int), .int .u32 (c2.2.2 : Int), .bool m] 49 (0, 0))
def PtrB (W : World) (R : Nat) : Prop := W.heap[R + 1]? = some (.cells #[.pointer (some ⟨R, 0, none⟩), .pointer (some ⟨R, 3, none⟩)] 84 (0, 0))
theorem rowB_cells {W : World} {R : Nat} {c1 c2 : Nat × Nat × Nat} {m : Bool} (h : RowB W R c1 c2 m) : W.cell? ⟨R, 0, none⟩ = some (.int .i64 (c1.1 : Int)) ∧ W.cell? ⟨R, 1, none⟩ = some (.int .i64 (c1.2.1 : Int)) ∧ W.cell? ⟨R, 2, none⟩ = some (.int .u32 (c1.2.2 : Int)) ∧ W.cell? ⟨R, 3, none⟩ = some (.int .i64 (c2.1 : Int)) ∧ W.cell? ⟨R, 4, none⟩ = some (.int .i64 (c2.2.1 : Int)) ∧ W.cell? ⟨R, 5, none⟩ = some (.int .u32 (c2.2.2 : Int)) ∧ W.cell? ⟨R, 6, none⟩ = some (.bool m) :=
  ⟨cell_of_row _ _ 0 _ _ _ h, cell_of_row _ _ 1 _ _ _ h, cell_of_row _ _ 2 _ _ _ h, cell_of_row _ _ 3 _ _ _ h, cell_of_row _ _ 4 _ _ _ h, cell_of_row _ _ 5 _ _ _ h, cell_of_row _ _ 6 _ _ _ h⟩
theorem rowB_free {W : World} {R : Nat} {c1 c2 : Nat × Nat × Nat} {m : Bool} (h : RowB W R c1 c2 m) : W.frozen? ⟨R, 0, none⟩ = false ∧ W.frozen? ⟨R, 1, none⟩ = false ∧ W.frozen? ⟨R, 2, none⟩ = false ∧ W.frozen? ⟨R, 3, none⟩ = false ∧ W.frozen? ⟨R, 4, none⟩ = false ∧ W.frozen? ⟨R, 5, none⟩ = false ∧ W.frozen? ⟨R, 6, none⟩ = false :=
  ⟨frozen_of_row _ _ 0 _ _ h, frozen_of_row _ _ 1 _ _ h, frozen_of_row _ _ 2 _ _ h, frozen_of_row _ _ 3 _ _ h, frozen_of_row _ _ 4 _ _ h, frozen_of_row _ _ 5 _ _ h, frozen_of_row _ _ 6 _ _ h⟩
theorem RowB.first {W : World} {R : Nat} {c1 c2 : Nat × Nat × Nat} {m : Bool} (h : RowB W R c1 c2 m) (c : Nat × Nat × Nat) : RowB (((W.setCell ⟨R, 0, none⟩ (.int .i64 (c.1 : Int))).setCell ⟨R, 1, none⟩ (.int .i64 (c.2.1 : Int))).setCell ⟨R, 2, none⟩ (.int .u32 (c.2.2 : Int))) R c c2 m :=
  heap_setCell_same _ R 2 _ _ _ (heap_setCell_same _ R 1 _ _ _ (heap_setCell_same W R 0 _ _ _ h))
theorem RowB.second {W : World} {R : Nat} {c1 c2 : Nat × Nat × Nat} {m : Bool} (h : RowB W R c1 c2 m) (c : Nat × Nat × Nat) : RowB (((W.setCell ⟨R, 3, none⟩ (.int .i64 (c.1 : Int))).setCell ⟨R, 4, none⟩ (.int .i64 (c.2.1 : Int))).setCell ⟨R, 5, none⟩ (.int .u32 (c.2.2 : Int))) R c1 c m :=
  heap_setCell_same _ R 5 _ _ _ (heap_setCell_same _ R 4 _ _ _ (heap_setCell_same W R 3 _ _ _ h))
theorem RowB.third {W : World} {R : Nat} {c1 c2 : Nat × Nat × Nat} {m : Bool} (h : RowB W R c1 c2 m) (b : Bool) : RowB (W.setCell ⟨R, 6, none⟩ (.bool b)) R c1 c2 b :=
  heap_setCell_same W R 6 _ _ _ h
theorem set3_mod (W : World) (R i j k : Nat) (a b c : Value) : Mod (oneB R) W (((W.setCell ⟨R, i, none⟩ a).setCell ⟨R, j, none⟩ b).setCell ⟨R, k, none⟩ c) :=
  (((Mod.refl (oneB R) W).set ⟨R, i, none⟩ a (.inl rfl)).set ⟨R, j, none⟩ b (.inl rfl)).set ⟨R, k, none⟩ c (.inl rfl)
theorem set1_mod (W : World) (R i : Nat) (a : Value) : Mod (oneB R) W (W.setCell ⟨R, i, none⟩ a) := (Mod.refl (oneB R) W).set ⟨R, i, none⟩ a (.inl rfl)
theorem cells3_new (W : World) (o : Obj) (a b c : Value) (T : TypeId) : Cells ((W.alloc o).alloc (.cells #[a, b, c] T)) (W.heap.size + 2) (some ⟨W.heap.size + 1, 0, none⟩) [a, b, c] := fun _ =>
  ⟨W.heap.size + 1, 0, rfl, by omega, fun j u hu => by
    have h := heap_alloc_new (W.alloc o) (.cells #[a, b, c] T)
    rw [World.size_alloc] at h
    rw [Nat.zero_add, cell_of_row _ (W.heap.size + 1) j _ _ _ h, ← Array.getElem?_toList]
    exact hu⟩
/-- What joined symbols come to is small. -/
theorem joinR_bd {n1 b1 : Int} {x1 : Nat} {n2 b2 : Int} {x2 : Nat} {m : Bool} {J : Option (Nat × Nat × Nat)} (h : joinR n1 b1 x1 n2 b2 x2 m = J) : ∀ y l d, J = some (y, l, d) → y < 256 ∧ l ≤ 258 ∧ d ≤ 32768 := by
  rintro y l d rfl
  unfold joinR at h
  split at h
  · split at h
    · rename_i hc
      cases h
      omega
    · cases h
  · split at h
    · rename_i hc
      cases h
      have h1 := valC_low (n := n1 - 257) (b := b1) (x := x1) (by omega)
      have h2 := vN_lt n2 b2 x2
      omega
    · cases h
set_option maxRecDepth 100000 in
set_option maxHeartbeats 4000000 in
theorem tktoks_any (F : List Int → List Bool → Int × Int × Nat) (hF : FunT F) (r base n0 ga gb : Nat) (S : Nat → Prop) (bs : List UInt8) (p : Nat) (most : Int) (z1 z2 : List Int) (w : World) (h1 : caR z1 = true) (h2 : caR z2 = true) (hzl1 : z1.length = 273) (hzl2 : z2.length = 30) (ha : LCa w n0 ga z1) (hb : LCa w n0 gb z2) (hr0 : r < n0) (hrd : RdS w r base S bs p) (hbl : bs.length ≤ 1000000) (m0 : -9223372036854775808 ≤ most) (m1 : most ≤ 9223372036854775807) :
    Calls Try.prog 20 #[.pointer (some ⟨r, 0, none⟩), .agg (alC (.pointer (some ⟨ga, 0, none⟩)) 257 (.pointer (some ⟨gb, 0, none⟩)) 0), .int .i64 most] w
      fun e w' => ∃ (A : Option Addr) (c p' : Nat) (t : Int × List Tk × Nat), blkL F z1 z2 (unpack bs) most ((unpack bs).length + 1 - p) [] 0 p = t ∧ e = .returned (.tuple #[.slice A t.2.1.length c, .int .i64 t.1]) ∧ w'.ownsRow (w.heap.size + 1) 39 3 (.slice A t.2.1.length c) t.2.1.length (t.2.1.flatMap tcC) ∧ RdS w' r base S bs p' ∧ (t.1 = 0 → p' = t.2.2) ∧ Mod (oneB r) w w' := by
  obtain ⟨hrl0, hp8, _⟩ := rd_low hrd
  obtain ⟨W1, hW1⟩ : ∃ W1, w.alloc (.cells (alC (.pointer (some ⟨ga, 0, none⟩)) 257 (.pointer (some ⟨gb, 0, none⟩)) 0) 62) = W1 := ⟨_, rfl⟩
  have hb1 : Below w.heap.size w W1 := by rw [← hW1]; exact (Below.refl _ w).alloc (Nat.le_refl _) _
  have HX1 : Hid (W1.heap[w.heap.size]? = some (.cells (alC (.pointer (some ⟨ga, 0, none⟩)) 257 (.pointer (some ⟨gb, 0, none⟩)) 0) 62 (0, 0))) := by show _ = _; rw [← hW1]; exact heap_alloc_new w _
  have HSL : Hid (∀ k, S k → k < w.heap.size) := hrd.lt
  have HRL : Hid (r < w.heap.size) := hrl0
  obtain ⟨L, hL⟩ : ∃ L, unpack bs = L := ⟨_, rfl⟩
  have hLl : L.length = 8 * bs.length := by rw [← hL, unpack_length]
  have HI1 : Hid (TsI w W1 r base S bs p ga gb (.slice none 0 0) []) := ⟨World.ownsRow_nil _ _ _ _, hrd.keep (Mod.of_below hb1) (fun _ _ h => h), (Mod.of_below hb1).mono (fun _ h => h.elim), HX1.out⟩
  have HCA : Hid (∀ W, Mod (oneB r) w W → LCa W n0 ga z1) := fun W hW => ha.keep2 hW (fun k hk => by have h2 : k = r := hk; omega)
  have HCB : Hid (∀ W, Mod (oneB r) w W → LCa W n0 gb z2) := fun W hW => hb.keep2 hW (fun k hk => by have h2 : k = r := hk; omega)
  have HTC : Hid (∀ (g zr : Nat) (zs : List Int) (W : World) (p' : Nat), caR zs = true → zr ≤ 1000 → LCa W n0 g zs → RdS W r base S bs p' → _) := fun g zr zs W p' hr hz hc hrd => tkclass_any F hF g r base zr zs S bs p' W hr hz hc.lc hrd hbl
  rw [hL] at HTC ⊢
  obtain ⟨T, hT⟩ : ∃ T, blkL F z1 z2 L most (L.length + 1 - p) [] 0 p = T := ⟨_, rfl⟩
  have HT := Lib.hid hT
  rw [hT]
  have HERR : Hid (∀ (e : Ending) (w' : World) (er : Int) (p' : Nat), T = (er, [], 0) → er ≠ 0 → e = .returned (.tuple #[.slice none 0 0, .int .i64 er]) → RdS w' r base S bs p' → Mod (oneB r) w w' → ∃ (A : Option Addr) (c p' : Nat) (t : Int × List Tk × Nat), T = t ∧ e = .returned (.tuple #[.slice A t.2.1.length c, .int .i64 t.1]) ∧ w'.ownsRow (w.heap.size + 1) 39 3 (.slice A t.2.1.length c) t.2.1.length (t.2.1.flatMap tcC) ∧ RdS w' r base S bs p' ∧ (t.1 = 0 → p' = t.2.2) ∧ Mod (oneB r) w w') := fun e w' er p' ht hne he hr hm => ⟨none, 0, p', _, ht, he, World.ownsRow_nil _ _ _ _, hr, fun h => absurd h hne, hm⟩
  have HR1 := Lib.hid h1
  have HR2 := Lib.hid h2
  have HLL := Lib.hid hLl
  have hp8L : p ≤ L.length := by omega
  clear ha hb hrd hb1 hL h1 h2 hT HX1
  unfold alC at hW1 ⊢
  go_enter Try.func20, Try.ntmps20
  go_wp2
  go_step3
  go_wp2
  go_step3
  go_wp2
  go_loopg [6, 7, 8] (L.length + 1 - p) (fun gk v s7 s8 wr => ∃ (ts : List Tk) (size p' : Nat), s7 = .int .i64 0 ∧ s8 = .int .i64 (size : Int) ∧ T = blkL F z1 z2 L most gk ts size p' ∧ L.length + 1 ≤ p' + gk ∧ p' ≤ L.length ∧ (size = 0 ∨ (size : Int) ≤ most) ∧ size ≤ 258 * p' ∧ ts.length ≤ p' ∧ (∃ A c, v = .slice A ts.length c) ∧ TsI w wr r base S bs p' ga gb v ts)
  case atStart => exact ⟨[], 0, p, rfl, rfl, HT.out.symm, by omega, by omega, .inl rfl, by omega, Nat.zero_le _, ⟨none, 0, rfl⟩, HI1.out⟩
  case round =>
    obtain ⟨ts, size, p', rfl, rfl, hte, hpg, hpl, hsm, hs258, hlp, ⟨Av, cv, rfl⟩, hti⟩ := hrel
    have HTE := Lib.hid hte
    have HTI := Lib.hid hti
    obtain ⟨j, rfl⟩ : ∃ j, gk = j + 1 := ⟨gk - 1, by omega⟩
    obtain ⟨ll, hll⟩ : ∃ ll, ts.length = ll := ⟨_, rfl⟩
    have HLN := Lib.hid hll
    rw [hll] at HTI hlp ⊢
    have hlmax : ll ≤ 8000000 := by have := HLL.out; omega
    obtain ⟨W0, hW0⟩ : ∃ W0, W0 = wr := ⟨_, rfl⟩
    subst hW0
    obtain ⟨R, hR⟩ : ∃ R, W0.heap.size = R := ⟨_, rfl⟩
    have hNR : w.heap.size < R := by rw [← hR]; exact (Array.getElem?_eq_some_iff.1 hti.box).1
    clear hte hti hll HI1
    have HRB0 : Hid (RowB ((W0.alloc (.cells #[.int .i64 0, .int .i64 0, .int .u32 0, .int .i64 0, .int .i64 0, .int .u32 0, .bool false] 49)).alloc (.cells #[.pointer (some ⟨R, 0, none⟩), .pointer (some ⟨R, 3, none⟩)] 84)) R (0, 0, 0) (0, 0, 0) false) := by
      show RowB _ _ _ _ _
      rw [← hR]
      exact row3_alloc (heap_alloc_new W0 _) _
    have HPB0 : Hid (PtrB ((W0.alloc (.cells #[.int .i64 0, .int .i64 0, .int .u32 0, .int .i64 0, .int .i64 0, .int .u32 0, .bool false] 49)).alloc (.cells #[.pointer (some ⟨R, 0, none⟩), .pointer (some ⟨R, 3, none⟩)] 84)) R) := by
      show PtrB _ _
      have h := heap_alloc_new (W0.alloc (.cells #[.int .i64 0, .int .i64 0, .int .u32 0, .int .i64 0, .int .i64 0, .int .u32 0, .bool false] 49)) (.cells #[.pointer (some ⟨R, 0, none⟩), .pointer (some ⟨R, 3, none⟩)] 84)
      rw [World.size_alloc, hR] at h
      exact h
    have HI0 := Lib.hid (HTI.out.below (((Below.refl W0.heap.size W0).alloc (Nat.le_refl _) (.cells #[.int .i64 0, .int .i64 0, .int .u32 0, .int .i64 0, .int .i64 0, .int .u32 0, .bool false] 49)).alloc (by simp) (.cells #[.pointer (some ⟨R, 0, none⟩), .pointer (some ⟨R, 3, none⟩)] 84)))
    have HAV : Hid (∀ g, W0.heap.size ≤ g → (Value.slice Av ll cv).ownBlock ≠ some g) := fun g hg e => by
      have := (HTI.out.row.lt g e).2
      omega
    have hs0 := HTI.out.mod.size
    go_wp2
    rw [hR] at HAV
    go_loopg [7, 10, 11, 19] 2 (fun gk s7 s10 s11 i W => s7 = .int .i64 0 ∧ ∃ (k pp : Nat) (c1 c2 : Nat × Nat × Nat) (m : Bool), k + gk = 2 ∧ i = .int .i64 (k : Int) ∧ TsI w W r base S bs pp ga gb (.slice Av ll cv) ts ∧ RowB W R c1 c2 m ∧ PtrB W R ∧ R + 1 < W.heap.size ∧
      ((k = 0 ∧ c1 = (0, 0, 0) ∧ c2 = (0, 0, 0) ∧ m = false ∧ pp = p') ∨
       (k = 1 ∧ c2 = (0, 0, 0) ∧ m = true ∧ 256 < c1.1 ∧ c1.1 < 273 ∧ c1.2.1 ≤ 13 ∧ c1.2.2 < 8192 ∧ ∃ on1, clsF F z1 257 L p' = (0, c1, on1) ∧ pp = p' + on1 ∧ 1 ≤ on1) ∨
       (k = 2 ∧ m = true ∧ 256 < c1.1 ∧ c1.1 < 273 ∧ c1.2.1 ≤ 13 ∧ c1.2.2 < 8192 ∧ c2.1 < 30 ∧ c2.2.1 ≤ 13 ∧ c2.2.2 < 8192 ∧ ∃ on1 on2, clsF F z1 257 L p' = (0, c1, on1) ∧ clsF F z2 0 L (p' + on1) = (0, c2, on2) ∧ pp = p' + on1 + on2 ∧ 1 ≤ on1)))
    case atStart => exact ⟨rfl, 0, p', _, _, _, rfl, rfl, HI0.out, HRB0.out, HPB0.out, by simp; omega, .inl ⟨rfl, rfl, rfl, rfl, rfl⟩⟩
    case round =>
      obtain ⟨rfl, k, pp, c1, c2, m, hkg, rfl, hti, hrb, hpb, hRs, hcase⟩ := hrel
      have HTI2 := Lib.hid hti
      have HRB := Lib.hid hrb
      have HPB := Lib.hid hpb
      have g0 : wr.cell? ⟨R + 1, 0, none⟩ = some (.pointer (some ⟨R, 0, none⟩)) := cell_of_row _ _ 0 _ _ _ hpb
      have g1 : wr.cell? ⟨R + 1, 1, none⟩ = some (.pointer (some ⟨R, 3, none⟩)) := cell_of_row _ _ 1 _ _ _ hpb
      obtain ⟨⟨x0, x1, x2, x3⟩, _⟩ := row4_facts hti.box
      clear hti hrb hpb HRB0 HPB0 HI0
      rcases hcase with ⟨rfl, rfl, rfl, rfl, rfl⟩ | ⟨rfl, rfl, rfl, h256, h273, hcb, hcx, on1, hc1, rfl, hon⟩ | ⟨rfl, rfl, h256, h273, hcb, hcx, h30, hdb, hdx, on1, on2, hc1, hc2, rfl, hon⟩
      · have hgk : gk = 2 := by omega
        have HCL := Lib.hid (HTC.out ga 257 z1 wr pp HR1.out (by omega) (HCA.out wr HTI2.out.mod) HTI2.out.rd)
        obtain ⟨C, hC⟩ : ∃ C, clsF F z1 257 L pp = C := ⟨_, rfl⟩
        rw [hC] at HCL
        obtain ⟨er, ⟨n, b, x⟩, on⟩ := C
        dsimp only at HCL
        by_cases her : er = 0
        · subst her
          by_cases h256 : n = 256
          · have HTQ : Hid (T = (0, ts, pp + on)) := by show _ = _; rw [HTE.out, blkL, hC]; dsimp only; rw [if_neg (by simp), if_pos h256]
            have v1 : ((n : Int) == 256) = true := by simp; omega
            clear hC h256
            go_wp2_with (go_at_call 32; refine HCL.out.mono ?_; rintro e w5 ⟨p5, rfl, hrd5, hpe5, hm5⟩; have HI5 := Lib.hid (HTI2.out.part HRL.out hm5 hrd5); have hrb5 : RowB w5 R _ _ _ := hm5.keep HRB.out (fun h => by have h2 : R = r := h; have := HRL.out; omega); have hpb5 : PtrB w5 R := hm5.keep HPB.out (fun h => by have h2 : R + 1 = r := h; have := HRL.out; omega); have HPB5 := Lib.hid hpb5; have hs5 := hm5.size; obtain ⟨rfl, hon1, hnz, hb13, hx81⟩ := hpe5 (by first | rfl | trivial); obtain ⟨q0, q1, q2, q3, q4, q5, q6⟩ := rowB_cells hrb5; obtain ⟨f0, f1, f2, f3, f4, f5, f6⟩ := rowB_free hrb5; obtain ⟨W6, hW6⟩ : ∃ W6, (((w5.setCell ⟨R, 0, none⟩ (.int .i64 (n : Int))).setCell ⟨R, 1, none⟩ (.int .i64 (b : Int))).setCell ⟨R, 2, none⟩ (.int .u32 (x : Int))) = W6 := ⟨_, rfl⟩; have hrb6 := hrb5.first (n, b, x); dsimp only at hrb6; rw [hW6] at hrb6; have hm6 : Mod (oneB R) w5 W6 := (by rw [← hW6]; exact set3_mod _ _ _ _ _ _ _ _); have HI6 := Lib.hid (HI5.out.other HSL.out (by omega) (HAV.out R (Nat.le_refl _)) hm6); have HRB6 := Lib.hid hrb6; have HPB6 := Lib.hid (show PtrB W6 R from hm6.keep HPB5.out (fun h => by have h2 : R + 1 = R := h; omega)); have hs6 := hm6.size; obtain ⟨s0, s1, s2, s3, s4, s5, s6⟩ := rowB_cells hrb6; obtain ⟨e0, e1, e2, e3, e4, e5, e6⟩ := rowB_free hrb6; clear hrd5 hpe5 hm5 hrb5 hpb5 hrb6 hm6)
            try rw [Exit.noGoto_ret]
            refine bodyPost_ret (results_tmp2 rfl _ _ _) rfl ?_
            refine ⟨Av, cv, _, _, HTQ.out, by rw [HLN.out]; rfl, ?_, HI6.out.rd, fun _ => rfl, HI6.out.mod⟩
            have h := HI6.out.row
            rw [HLN.out]
            rw [HLN.out] at h
            exact h
          · by_cases hm : 256 < n
            · have HCC := Lib.hid hC
              clear hC
              have v1 : ((n : Int) == 256) = false := by simp; omega
              have v2 : decide ((256 : Int) < (n : Int)) = true := decide_eq_true (by omega)
              have v2n : decide (256 < n) = true := decide_eq_true hm
              go_wp2_with (go_at_call 32; refine HCL.out.mono ?_; rintro e w5 ⟨p5, rfl, hrd5, hpe5, hm5⟩; have HI5 := Lib.hid (HTI2.out.part HRL.out hm5 hrd5); have hrb5 : RowB w5 R _ _ _ := hm5.keep HRB.out (fun h => by have h2 : R = r := h; have := HRL.out; omega); have hpb5 : PtrB w5 R := hm5.keep HPB.out (fun h => by have h2 : R + 1 = r := h; have := HRL.out; omega); have HPB5 := Lib.hid hpb5; have hs5 := hm5.size; obtain ⟨rfl, hon1, hnz, hb13, hx81⟩ := hpe5 (by first | rfl | trivial); obtain ⟨q0, q1, q2, q3, q4, q5, q6⟩ := rowB_cells hrb5; obtain ⟨f0, f1, f2, f3, f4, f5, f6⟩ := rowB_free hrb5; obtain ⟨W6, hW6⟩ : ∃ W6, (((w5.setCell ⟨R, 0, none⟩ (.int .i64 (n : Int))).setCell ⟨R, 1, none⟩ (.int .i64 (b : Int))).setCell ⟨R, 2, none⟩ (.int .u32 (x : Int))) = W6 := ⟨_, rfl⟩; have hrb6 := hrb5.first (n, b, x); dsimp only at hrb6; rw [hW6] at hrb6; have hm6 : Mod (oneB R) w5 W6 := (by rw [← hW6]; exact set3_mod _ _ _ _ _ _ _ _); have HI6 := Lib.hid (HI5.out.other HSL.out (by omega) (HAV.out R (Nat.le_refl _)) hm6); have HRB6 := Lib.hid hrb6; have HPB6 := Lib.hid (show PtrB W6 R from hm6.keep HPB5.out (fun h => by have h2 : R + 1 = R := h; omega)); have hs6 := hm6.size; obtain ⟨s0, s1, s2, s3, s4, s5, s6⟩ := rowB_cells hrb6; obtain ⟨e0, e1, e2, e3, e4, e5, e6⟩ := rowB_free hrb6; obtain ⟨W7, hW7⟩ : ∃ W7, W6.setCell ⟨R, 6, none⟩ (.bool true) = W7 := ⟨_, rfl⟩; have hrb7 := hrb6.third true; rw [hW7] at hrb7; have hm7 : Mod (oneB R) W6 W7 := (by rw [← hW7]; exact set1_mod _ _ _ _); have HI7 := Lib.hid (HI6.out.other HSL.out (by omega) (HAV.out R (Nat.le_refl _)) hm7); have HRB7 := Lib.hid hrb7; have HPB7 := Lib.hid (show PtrB W7 R from hm7.keep HPB6.out (fun h => by have h2 : R + 1 = R := h; omega)); have hs7 := hm7.size; obtain ⟨t0, t1, t2, t3, t4, t5, t6⟩ := rowB_cells hrb7; clear hrb7 hm7; clear hrd5 hpe5 hm5 hrb5 hpb5 hrb6 hm6)
              go_roundg 1
              case measure => omega
              case rel => exact ⟨rfl, 1, _, _, _, _, rfl, by go_num, HI7.out, HRB7.out, HPB7.out, by omega, .inr (.inl ⟨rfl, rfl, rfl, hm, by show n < 273; omega, hb13, hx81, on, HCC.out, rfl, hon1⟩)⟩
            · have HTQ : Hid (T = match (joinR (n : Int) (b : Int) x 0 0 0 false) with
                | none => (3, [], 0)
                | some (y, l, d) => if size < d then (3, [], 0) else if most - (size : Int) < (max l 1 : Nat) then (5, [], 0) else blkL F z1 z2 L most j (ts ++ [(UInt8.ofNat y, l, d)]) (size + max l 1) (pp + on)) := by
                show _ = _
                rw [HTE.out, blkL, hC]
                dsimp only
                rw [if_neg (by simp), if_neg h256, if_neg (by omega), if_neg hm, if_neg hm, Nat.add_zero]
                rfl
              clear hC
              have v1 : ((n : Int) == 256) = false := by simp; omega
              have v2 : decide ((256 : Int) < (n : Int)) = false := decide_eq_false (by omega)
              have v2n : decide (256 < n) = false := decide_eq_false hm
              go_upto_region 11 with (go_at_call 32; refine HCL.out.mono ?_; rintro e w5 ⟨p5, rfl, hrd5, hpe5, hm5⟩; have HI5 := Lib.hid (HTI2.out.part HRL.out hm5 hrd5); have hrb5 : RowB w5 R _ _ _ := hm5.keep HRB.out (fun h => by have h2 : R = r := h; have := HRL.out; omega); have hpb5 : PtrB w5 R := hm5.keep HPB.out (fun h => by have h2 : R + 1 = r := h; have := HRL.out; omega); have HPB5 := Lib.hid hpb5; have hs5 := hm5.size; obtain ⟨rfl, hon1, hnz, hb13, hx81⟩ := hpe5 (by first | rfl | trivial); obtain ⟨q0, q1, q2, q3, q4, q5, q6⟩ := rowB_cells hrb5; obtain ⟨f0, f1, f2, f3, f4, f5, f6⟩ := rowB_free hrb5; obtain ⟨W6, hW6⟩ : ∃ W6, (((w5.setCell ⟨R, 0, none⟩ (.int .i64 (n : Int))).setCell ⟨R, 1, none⟩ (.int .i64 (b : Int))).setCell ⟨R, 2, none⟩ (.int .u32 (x : Int))) = W6 := ⟨_, rfl⟩; have hrb6 := hrb5.first (n, b, x); dsimp only at hrb6; rw [hW6] at hrb6; have hm6 : Mod (oneB R) w5 W6 := (by rw [← hW6]; exact set3_mod _ _ _ _ _ _ _ _); have HI6 := Lib.hid (HI5.out.other HSL.out (by omega) (HAV.out R (Nat.le_refl _)) hm6); have HRB6 := Lib.hid hrb6; have HPB6 := Lib.hid (show PtrB W6 R from hm6.keep HPB5.out (fun h => by have h2 : R + 1 = R := h; omega)); have hs6 := hm6.size; obtain ⟨s0, s1, s2, s3, s4, s5, s6⟩ := rowB_cells hrb6; obtain ⟨e0, e1, e2, e3, e4, e5, e6⟩ := rowB_free hrb6; obtain ⟨W7, hW7⟩ : ∃ W7, W6.setCell ⟨R, 6, none⟩ (.bool false) = W7 := ⟨_, rfl⟩; have hrb7 := hrb6.third false; rw [hW7] at hrb7; have hm7 : Mod (oneB R) W6 W7 := (by rw [← hW7]; exact set1_mod _ _ _ _); have HI7 := Lib.hid (HI6.out.other HSL.out (by omega) (HAV.out R (Nat.le_refl _)) hm7); have HRB7 := Lib.hid hrb7; have HPB7 := Lib.hid (show PtrB W7 R from hm7.keep HPB6.out (fun h => by have h2 : R + 1 = R := h; omega)); have hs7 := hm7.size; obtain ⟨t0, t1, t2, t3, t4, t5, t6⟩ := rowB_cells hrb7; clear hrb7 hm7; clear hrd5 hpe5 hm5 hrb5 hpb5 hrb6 hm6)
              have hpl2 := (rd_low HI7.out.rd).2.1
              have hLL := HLL.out
              obtain ⟨r0, r1, r2, r3, r4, r5, r6⟩ := rowB_cells HRB7.out
              dsimp only at r0 r1 r2 r3 r4 r5 r6
              have HJ := Lib.hid (fun W => join_all (n1 := (n : Int)) (b1 := (b : Int)) (x1 := x) (n2 := 0) (b2 := 0) (x2 := 0) false W (by omega) (by omega) (by omega) (by omega))
              obtain ⟨J, hJ⟩ : ∃ J, joinR (n : Int) (b : Int) x 0 0 0 false = J := ⟨_, rfl⟩
              rw [hJ] at HJ HTQ
              have HJB := Lib.hid (joinR_bd hJ)
              unfold agR at HJ
              clear hJ
              cases J with
              | none =>
                unfold joinV agT at HJ
                go_wp2_with (go_at_call 33; refine (HJ.out _).mono ?_; rintro e w8 ⟨rfl, hb8⟩; have HI8 := Lib.hid (HI7.out.below hb8); have HI9 := Lib.hid (HI8.out.below ((Below.refl w8.heap.size w8).alloc (Nat.le_refl _) (.cells #[.int .u8 0, .int .i64 0, .int .i64 0] 39))); clear hb8)
                try rw [Exit.noGoto_ret]
                refine bodyPost_ret (results_tmp2 rfl _ _ _) rfl ?_
                exact HERR.out _ _ 3 _ HTQ.out (by first | decide | assumption) (by rfl) HI9.out.rd HI9.out.mod
              | some q =>
                obtain ⟨y, l, d⟩ := q
                unfold joinV agT at HJ
                dsimp only at HTQ
                obtain ⟨hy256, hl258, hd⟩ := HJB.out y l d rfl
                have HYY : Hid ((UInt8.ofNat y).toNat = y) := by show _ = _; simp; omega
                have hmax : max (l : Int) 1 = ((max l 1 : Nat) : Int) := by omega
                obtain ⟨sz, hsz⟩ : ∃ sz, max l 1 = sz := ⟨_, rfl⟩
                rw [hsz] at HTQ hmax
                have hsz1 : 1 ≤ sz ∧ sz ≤ 258 := by omega
                have hsub : IntKind.i64.wrap (most - (size : Int)) = most - (size : Int) := IntWalk.i64_in _ (by omega)
                clear hsz
                by_cases hdd : size < d
                · rw [if_pos hdd] at HTQ
                  have u1 : decide ((size : Int) < (d : Int)) = true := decide_eq_true (by omega)
                  have u1n : decide (size < d) = true := decide_eq_true hdd
                  clear hdd hmax hsub
                  go_wp2_with (go_at_call 33; refine (HJ.out _).mono ?_; rintro e w8 ⟨rfl, hb8⟩; have HI8 := Lib.hid (HI7.out.below hb8); have HI9 := Lib.hid (HI8.out.below ((Below.refl w8.heap.size w8).alloc (Nat.le_refl _) (.cells #[.int .u8 (y : Int), .int .i64 (l : Int), .int .i64 (d : Int)] 39))); clear hb8)
                  try rw [Exit.noGoto_ret]
                  refine bodyPost_ret (results_tmp2 rfl _ _ _) rfl ?_
                  exact HERR.out _ _ 3 _ HTQ.out (by first | decide | assumption) (by rfl) HI9.out.rd HI9.out.mod
                · rw [if_neg hdd] at HTQ
                  have u1 : decide ((size : Int) < (d : Int)) = false := decide_eq_false (by omega)
                  have u1n : decide (size < d) = false := decide_eq_false hdd
                  by_cases hbig : most - (size : Int) < (sz : Int)
                  · rw [if_pos hbig] at HTQ
                    have u2 : decide (most - (size : Int) < (sz : Int)) = true := decide_eq_true hbig
                    clear hdd hbig
                    go_wp2_with (go_at_call 33; refine (HJ.out _).mono ?_; rintro e w8 ⟨rfl, hb8⟩; have HI8 := Lib.hid (HI7.out.below hb8); have HI9 := Lib.hid (HI8.out.below ((Below.refl w8.heap.size w8).alloc (Nat.le_refl _) (.cells #[.int .u8 (y : Int), .int .i64 (l : Int), .int .i64 (d : Int)] 39))); clear hb8)
                    try rw [Exit.noGoto_ret]
                    refine bodyPost_ret (results_tmp2 rfl _ _ _) rfl ?_
                    exact HERR.out _ _ 5 _ HTQ.out (by first | decide | assumption) (by rfl) HI9.out.rd HI9.out.mod
                  · rw [if_neg hbig] at HTQ
                    have u2 : decide (most - (size : Int) < (sz : Int)) = false := decide_eq_false hbig
                    have hsm2 : ((size + sz : Nat) : Int) ≤ most := by omega
                    have HFM : Hid ((ts ++ [(UInt8.ofNat y, l, d)]).flatMap tcC = ts.flatMap tcC ++ [.int .u8 (y : Int), .int .i64 (l : Int), .int .i64 (d : Int)]) := by show _ = _; rw [List.flatMap_append]; simp only [List.flatMap_cons, List.flatMap_nil, List.append_nil, tcC, HYY.out]
                    have HFL : Hid ((ts ++ [(UInt8.ofNat y, l, d)]).length = ll + 1) := by show _ = _; rw [List.length_append, HLN.out]; rfl
                    clear hdd hbig
                    go_wp2_with (first
                      | (go_at_call 33; refine (HJ.out _).mono ?_; rintro e w8 ⟨rfl, hb8⟩; have HI8 := Lib.hid (HI7.out.below hb8); have HI9 := Lib.hid (HI8.out.below ((Below.refl w8.heap.size w8).alloc (Nat.le_refl _) (.cells #[.int .u8 (y : Int), .int .i64 (l : Int), .int .i64 (d : Int)] 39))); clear hb8)
                      | (at_builtin; refine wpList_app ((w8.alloc (.cells #[.int .u8 (y : Int), .int .i64 (l : Int), .int .i64 (d : Int)] 39)).alloc (.cells #[.int .u8 (y : Int), .int .i64 (l : Int), .int .i64 (d : Int)] 39)) tcElem rfl (.tmp 75) (.tmp 77) rfl (w.heap.size + 1) (.slice Av ll cv) ll (ts.flatMap tcC) rfl (by have h := HI9.out.row; rw [HLN.out] at h; exact h.alloc _) (w8.heap.size + 2) (some ⟨w8.heap.size + 1, 0, none⟩) 1 1 [.int .u8 (y : Int), .int .i64 (l : Int), .int .i64 (d : Int)] rfl rfl (cells3_new w8 _ _ _ _ _) (by simp [Value.oneCell']) (by unfold maxLen; omega) (by omega) (by have := HI8.out.mod.size; have := (Array.getElem?_eq_some_iff.1 HI8.out.box).1; simp; omega) ?_; intro A7 c7 w9 hA; have HA7 := Lib.hid hA; clear hA))
                    have HI10 := Lib.hid ((HI9.out.below ((Below.refl _ _).alloc (Nat.le_refl _) _)).app (ts' := ts ++ [(UInt8.ofNat y, l, d)]) HSL.out HA7.out HFL.out.symm HFM.out.symm)
                    go_roundg j
                    case measure => omega
                    case rel => exact ⟨ts ++ [(UInt8.ofNat y, l, d)], size + sz, pp + on, rfl, by go_num, HTQ.out, by omega, by omega, .inr hsm2, by omega, by rw [HFL.out]; omega, ⟨A7, c7, by rw [HFL.out]⟩, HI10.out⟩
        · have HTQ : Hid (T = (er, [], 0)) := by show _ = _; rw [HTE.out, blkL, hC]; dsimp only; rw [if_pos her]
          have v1 : (er != 0) = true := by simpa using her
          clear hC
          go_wp2_with (go_at_call 32; refine HCL.out.mono ?_; rintro e w5 ⟨p5, rfl, hrd5, hpe5, hm5⟩; have HI5 := Lib.hid (HTI2.out.part HRL.out hm5 hrd5); have hrb5 : RowB w5 R _ _ _ := hm5.keep HRB.out (fun h => by have h2 : R = r := h; have := HRL.out; omega); have hpb5 : PtrB w5 R := hm5.keep HPB.out (fun h => by have h2 : R + 1 = r := h; have := HRL.out; omega); have HPB5 := Lib.hid hpb5; have hs5 := hm5.size; obtain ⟨q0, q1, q2, q3, q4, q5, q6⟩ := rowB_cells hrb5; obtain ⟨f0, f1, f2, f3, f4, f5, f6⟩ := rowB_free hrb5; obtain ⟨W6, hW6⟩ : ∃ W6, (((w5.setCell ⟨R, 0, none⟩ (.int .i64 (n : Int))).setCell ⟨R, 1, none⟩ (.int .i64 (b : Int))).setCell ⟨R, 2, none⟩ (.int .u32 (x : Int))) = W6 := ⟨_, rfl⟩; have hrb6 := hrb5.first (n, b, x); dsimp only at hrb6; rw [hW6] at hrb6; have hm6 : Mod (oneB R) w5 W6 := (by rw [← hW6]; exact set3_mod _ _ _ _ _ _ _ _); have HI6 := Lib.hid (HI5.out.other HSL.out (by omega) (HAV.out R (Nat.le_refl _)) hm6); have HRB6 := Lib.hid hrb6; have HPB6 := Lib.hid (show PtrB W6 R from hm6.keep HPB5.out (fun h => by have h2 : R + 1 = R := h; omega)); have hs6 := hm6.size; obtain ⟨s0, s1, s2, s3, s4, s5, s6⟩ := rowB_cells hrb6; obtain ⟨e0, e1, e2, e3, e4, e5, e6⟩ := rowB_free hrb6; clear hrd5 hpe5 hm5 hrb5 hpb5 hrb6 hm6)
          try rw [Exit.noGoto_ret]
          refine bodyPost_ret (results_tmp2 rfl _ _ _) rfl ?_
          exact HERR.out _ _ er _ HTQ.out (by first | decide | assumption) (by rfl) HI6.out.rd HI6.out.mod
      · have hgk : gk = 1 := by omega
        have HCL := Lib.hid (HTC.out gb 0 z2 wr (p' + on1) HR2.out (by omega) (HCB.out wr HTI2.out.mod) HTI2.out.rd)
        obtain ⟨C, hC⟩ : ∃ C, clsF F z2 0 L (p' + on1) = C := ⟨_, rfl⟩
        rw [hC] at HCL
        obtain ⟨er, ⟨n, b, x⟩, on⟩ := C
        dsimp only at HCL
        by_cases her : er = 0
        · subst her
          have HCC := Lib.hid hC
          have HC1 := Lib.hid hc1
          clear hC hc1
          have v1 : ((c1.1 : Int) == 256) = false := by simp; omega
          have v2 : decide ((256 : Int) < (c1.1 : Int)) = true := decide_eq_true (by omega)
          have v2n : decide (256 < c1.1) = true := decide_eq_true h256
          go_wp2_with (go_at_call 32; refine HCL.out.mono ?_; rintro e w5 ⟨p5, rfl, hrd5, hpe5, hm5⟩; have HI5 := Lib.hid (HTI2.out.part HRL.out hm5 hrd5); have hrb5 : RowB w5 R _ _ _ := hm5.keep HRB.out (fun h => by have h2 : R = r := h; have := HRL.out; omega); have hpb5 : PtrB w5 R := hm5.keep HPB.out (fun h => by have h2 : R + 1 = r := h; have := HRL.out; omega); have HPB5 := Lib.hid hpb5; have hs5 := hm5.size; obtain ⟨rfl, hon1, hnz, hb13, hx81⟩ := hpe5 (by first | rfl | trivial); obtain ⟨q0, q1, q2, q3, q4, q5, q6⟩ := rowB_cells hrb5; obtain ⟨f0, f1, f2, f3, f4, f5, f6⟩ := rowB_free hrb5; obtain ⟨W6, hW6⟩ : ∃ W6, (((w5.setCell ⟨R, 3, none⟩ (.int .i64 (n : Int))).setCell ⟨R, 4, none⟩ (.int .i64 (b : Int))).setCell ⟨R, 5, none⟩ (.int .u32 (x : Int))) = W6 := ⟨_, rfl⟩; have hrb6 := hrb5.second (n, b, x); dsimp only at hrb6; rw [hW6] at hrb6; have hm6 : Mod (oneB R) w5 W6 := (by rw [← hW6]; exact set3_mod _ _ _ _ _ _ _ _); have HI6 := Lib.hid (HI5.out.other HSL.out (by omega) (HAV.out R (Nat.le_refl _)) hm6); have HRB6 := Lib.hid hrb6; have HPB6 := Lib.hid (show PtrB W6 R from hm6.keep HPB5.out (fun h => by have h2 : R + 1 = R := h; omega)); have hs6 := hm6.size; obtain ⟨s0, s1, s2, s3, s4, s5, s6⟩ := rowB_cells hrb6; obtain ⟨e0, e1, e2, e3, e4, e5, e6⟩ := rowB_free hrb6; obtain ⟨W7, hW7⟩ : ∃ W7, W6.setCell ⟨R, 6, none⟩ (.bool true) = W7 := ⟨_, rfl⟩; have hrb7 := hrb6.third true; rw [hW7] at hrb7; have hm7 : Mod (oneB R) W6 W7 := (by rw [← hW7]; exact set1_mod _ _ _ _); have HI7 := Lib.hid (HI6.out.other HSL.out (by omega) (HAV.out R (Nat.le_refl _)) hm7); have HRB7 := Lib.hid hrb7; have HPB7 := Lib.hid (show PtrB W7 R from hm7.keep HPB6.out (fun h => by have h2 : R + 1 = R := h; omega)); have hs7 := hm7.size; obtain ⟨t0, t1, t2, t3, t4, t5, t6⟩ := rowB_cells hrb7; clear hrb7 hm7; clear hrd5 hpe5 hm5 hrb5 hpb5 hrb6 hm6)
          go_roundg 0
          case measure => omega
          case rel => exact ⟨rfl, 2, _, _, _, _, rfl, by go_num, HI7.out, HRB7.out, HPB7.out, by omega, .inr (.inr ⟨rfl, rfl, h256, h273, hcb, hcx, by show n < 30; omega, hb13, hx81, on1, on, HC1.out, HCC.out, rfl, hon⟩)⟩
        · have HTQ : Hid (T = (er, [], 0)) := by show _ = _; rw [HTE.out, blkL, hc1]; dsimp only; rw [if_neg (by simp), if_neg (by omega), hC]; dsimp only; rw [if_pos ⟨h256, her⟩]
          have v1 : (er != 0) = true := by simpa using her
          clear hC hc1
          go_wp2_with (go_at_call 32; refine HCL.out.mono ?_; rintro e w5 ⟨p5, rfl, hrd5, hpe5, hm5⟩; have HI5 := Lib.hid (HTI2.out.part HRL.out hm5 hrd5); have hrb5 : RowB w5 R _ _ _ := hm5.keep HRB.out (fun h => by have h2 : R = r := h; have := HRL.out; omega); have hpb5 : PtrB w5 R := hm5.keep HPB.out (fun h => by have h2 : R + 1 = r := h; have := HRL.out; omega); have HPB5 := Lib.hid hpb5; have hs5 := hm5.size; obtain ⟨q0, q1, q2, q3, q4, q5, q6⟩ := rowB_cells hrb5; obtain ⟨f0, f1, f2, f3, f4, f5, f6⟩ := rowB_free hrb5; obtain ⟨W6, hW6⟩ : ∃ W6, (((w5.setCell ⟨R, 3, none⟩ (.int .i64 (n : Int))).setCell ⟨R, 4, none⟩ (.int .i64 (b : Int))).setCell ⟨R, 5, none⟩ (.int .u32 (x : Int))) = W6 := ⟨_, rfl⟩; have hrb6 := hrb5.second (n, b, x); dsimp only at hrb6; rw [hW6] at hrb6; have hm6 : Mod (oneB R) w5 W6 := (by rw [← hW6]; exact set3_mod _ _ _ _ _ _ _ _); have HI6 := Lib.hid (HI5.out.other HSL.out (by omega) (HAV.out R (Nat.le_refl _)) hm6); have HRB6 := Lib.hid hrb6; have HPB6 := Lib.hid (show PtrB W6 R from hm6.keep HPB5.out (fun h => by have h2 : R + 1 = R := h; omega)); have hs6 := hm6.size; obtain ⟨s0, s1, s2, s3, s4, s5, s6⟩ := rowB_cells hrb6; obtain ⟨e0, e1, e2, e3, e4, e5, e6⟩ := rowB_free hrb6; clear hrd5 hpe5 hm5 hrb5 hpb5 hrb6 hm6)
          try rw [Exit.noGoto_ret]
          refine bodyPost_ret (results_tmp2 rfl _ _ _) rfl ?_
          exact HERR.out _ _ er _ HTQ.out (by first | decide | assumption) (by rfl) HI6.out.rd HI6.out.mod
      · have hgk : gk = 0 := by omega
        obtain ⟨n1, b1, x1⟩ := c1
        obtain ⟨n2, b2, x2⟩ := c2
        dsimp only at h256 h273 hcb hcx h30 hdb hdx
        have HTQ : Hid (T = match (joinR (n1 : Int) (b1 : Int) x1 (n2 : Int) (b2 : Int) x2 true) with
          | none => (3, [], 0)
          | some (y, l, d) => if size < d then (3, [], 0) else if most - (size : Int) < (max l 1 : Nat) then (5, [], 0) else blkL F z1 z2 L most j (ts ++ [(UInt8.ofNat y, l, d)]) (size + max l 1) (p' + on1 + on2)) := by
          show _ = _
          rw [HTE.out, blkL, hc1]
          dsimp only
          rw [if_neg (by simp), if_neg (by omega), hc2]
          dsimp only
          rw [if_neg (by simp), if_pos h256, if_pos h256]
          rfl
        clear hc1 hc2
        have hpl2 := (rd_low HTI2.out.rd).2.1
        have hLL := HLL.out
        obtain ⟨r0, r1, r2, r3, r4, r5, r6⟩ := rowB_cells HRB.out
        dsimp only at r0 r1 r2 r3 r4 r5 r6
        have HJ := Lib.hid (fun W => join_all (n1 := (n1 : Int)) (b1 := (b1 : Int)) (x1 := x1) (n2 := (n2 : Int)) (b2 := (b2 : Int)) (x2 := x2) true W (by omega) (by omega) (by omega) (by omega))
        obtain ⟨J, hJ⟩ : ∃ J, joinR (n1 : Int) (b1 : Int) x1 (n2 : Int) (b2 : Int) x2 true = J := ⟨_, rfl⟩
        rw [hJ] at HJ HTQ
        have HJB := Lib.hid (joinR_bd hJ)
        unfold agR at HJ
        clear hJ
        cases J with
        | none =>
          unfold joinV agT at HJ
          go_wp2_with (go_at_call 33; refine (HJ.out _).mono ?_; rintro e w8 ⟨rfl, hb8⟩; have HI8 := Lib.hid (HTI2.out.below hb8); have HI9 := Lib.hid (HI8.out.below ((Below.refl w8.heap.size w8).alloc (Nat.le_refl _) (.cells #[.int .u8 0, .int .i64 0, .int .i64 0] 39))); clear hb8)
          try rw [Exit.noGoto_ret]
          refine bodyPost_ret (results_tmp2 rfl _ _ _) rfl ?_
          exact HERR.out _ _ 3 _ HTQ.out (by first | decide | assumption) (by rfl) HI9.out.rd HI9.out.mod
        | some q =>
          obtain ⟨y, l, d⟩ := q
          unfold joinV agT at HJ
          dsimp only at HTQ
          obtain ⟨hy256, hl258, hd⟩ := HJB.out y l d rfl
          have HYY : Hid ((UInt8.ofNat y).toNat = y) := by show _ = _; simp; omega
          have hmax : max (l : Int) 1 = ((max l 1 : Nat) : Int) := by omega
          obtain ⟨sz, hsz⟩ : ∃ sz, max l 1 = sz := ⟨_, rfl⟩
          rw [hsz] at HTQ hmax
          have hsz1 : 1 ≤ sz ∧ sz ≤ 258 := by omega
          have hsub : IntKind.i64.wrap (most - (size : Int)) = most - (size : Int) := IntWalk.i64_in _ (by omega)
          clear hsz
          by_cases hdd : size < d
          · rw [if_pos hdd] at HTQ
            have u1 : decide ((size : Int) < (d : Int)) = true := decide_eq_true (by omega)
            have u1n : decide (size < d) = true := decide_eq_true hdd
            clear hdd hmax hsub
            go_wp2_with (go_at_call 33; refine (HJ.out _).mono ?_; rintro e w8 ⟨rfl, hb8⟩; have HI8 := Lib.hid (HTI2.out.below hb8); have HI9 := Lib.hid (HI8.out.below ((Below.refl w8.heap.size w8).alloc (Nat.le_refl _) (.cells #[.int .u8 (y : Int), .int .i64 (l : Int), .int .i64 (d : Int)] 39))); clear hb8)
            try rw [Exit.noGoto_ret]
            refine bodyPost_ret (results_tmp2 rfl _ _ _) rfl ?_
            exact HERR.out _ _ 3 _ HTQ.out (by first | decide | assumption) (by rfl) HI9.out.rd HI9.out.mod
          · rw [if_neg hdd] at HTQ
            have u1 : decide ((size : Int) < (d : Int)) = false := decide_eq_false (by omega)
            have u1n : decide (size < d) = false := decide_eq_false hdd
            by_cases hbig : most - (size : Int) < (sz : Int)
            · rw [if_pos hbig] at HTQ
              have u2 : decide (most - (size : Int) < (sz : Int)) = true := decide_eq_true hbig
              clear hdd hbig
              go_wp2_with (go_at_call 33; refine (HJ.out _).mono ?_; rintro e w8 ⟨rfl, hb8⟩; have HI8 := Lib.hid (HTI2.out.below hb8); have HI9 := Lib.hid (HI8.out.below ((Below.refl w8.heap.size w8).alloc (Nat.le_refl _) (.cells #[.int .u8 (y : Int), .int .i64 (l : Int), .int .i64 (d : Int)] 39))); clear hb8)
              try rw [Exit.noGoto_ret]
              refine bodyPost_ret (results_tmp2 rfl _ _ _) rfl ?_
              exact HERR.out _ _ 5 _ HTQ.out (by first | decide | assumption) (by rfl) HI9.out.rd HI9.out.mod
            · rw [if_neg hbig] at HTQ
              have u2 : decide (most - (size : Int) < (sz : Int)) = false := decide_eq_false hbig
              have hsm2 : ((size + sz : Nat) : Int) ≤ most := by omega
              have HFM : Hid ((ts ++ [(UInt8.ofNat y, l, d)]).flatMap tcC = ts.flatMap tcC ++ [.int .u8 (y : Int), .int .i64 (l : Int), .int .i64 (d : Int)]) := by show _ = _; rw [List.flatMap_append]; simp only [List.flatMap_cons, List.flatMap_nil, List.append_nil, tcC, HYY.out]
              have HFL : Hid ((ts ++ [(UInt8.ofNat y, l, d)]).length = ll + 1) := by show _ = _; rw [List.length_append, HLN.out]; rfl
              clear hdd hbig
              go_wp2_with (first
                | (go_at_call 33; refine (HJ.out _).mono ?_; rintro e w8 ⟨rfl, hb8⟩; have HI8 := Lib.hid (HTI2.out.below hb8); have HI9 := Lib.hid (HI8.out.below ((Below.refl w8.heap.size w8).alloc (Nat.le_refl _) (.cells #[.int .u8 (y : Int), .int .i64 (l : Int), .int .i64 (d : Int)] 39))); clear hb8)
                | (at_builtin; refine wpList_app ((w8.alloc (.cells #[.int .u8 (y : Int), .int .i64 (l : Int), .int .i64 (d : Int)] 39)).alloc (.cells #[.int .u8 (y : Int), .int .i64 (l : Int), .int .i64 (d : Int)] 39)) tcElem rfl (.tmp 75) (.tmp 77) rfl (w.heap.size + 1) (.slice Av ll cv) ll (ts.flatMap tcC) rfl (by have h := HI9.out.row; rw [HLN.out] at h; exact h.alloc _) (w8.heap.size + 2) (some ⟨w8.heap.size + 1, 0, none⟩) 1 1 [.int .u8 (y : Int), .int .i64 (l : Int), .int .i64 (d : Int)] rfl rfl (cells3_new w8 _ _ _ _ _) (by simp [Value.oneCell']) (by unfold maxLen; omega) (by omega) (by have := HI8.out.mod.size; have := (Array.getElem?_eq_some_iff.1 HI8.out.box).1; simp; omega) ?_; intro A7 c7 w9 hA; have HA7 := Lib.hid hA; clear hA))
              have HI10 := Lib.hid ((HI9.out.below ((Below.refl _ _).alloc (Nat.le_refl _) _)).app (ts' := ts ++ [(UInt8.ofNat y, l, d)]) HSL.out HA7.out HFL.out.symm HFM.out.symm)
              go_roundg j
              case measure => omega
              case rel => exact ⟨ts ++ [(UInt8.ofNat y, l, d)], size + sz, p' + on1 + on2, rfl, by go_num, HTQ.out, by omega, by omega, .inr hsm2, by omega, by rw [HFL.out]; omega, ⟨A7, c7, by rw [HFL.out]⟩, HI10.out⟩
end Go.Proofs.Ytgbbdgoleiolhaa
/- Layer 13: a block is taken. -/
namespace Go.Proofs.Ytgbbdgoleiolhaa
open Go.RowKit BitsP SymP

theorem blktake_nil (v : Value) (w : World) : Calls Try.prog 10 #[.pointer none, v] w fun e w' => e = .returned (.tuple #[.slice none 0 0, .int .i64 1]) ∧ w = w' := by
  go_enter Try.func10, Try.ntmps10
  go_wp2
  go_ret2
  exact ⟨rfl, rfl⟩
theorem LCa.below_ {w w' : World} {n g : Nat} {zs : List Int} (h : LCa w n g zs) (hb : Below w.heap.size w w') : LCa w' n g zs := h.keep2 (Mod.of_below hb) (fun _ h => h.elim)
set_option maxRecDepth 100000 in
set_option maxHeartbeats 2000000 in
theorem blktake_any (F : List Int → List Bool → Int × Int × Nat) (hF : FunT F) (r base : Nat) (S : Nat → Prop) (bs : List UInt8) (p : Nat) (most : Int) (w : World) (hrd : RdS w r base S bs p) (hbl : bs.length ≤ 1000000) (m0 : -9223372036854775808 ≤ most) (m1 : most ≤ 9223372036854775807) :
    Calls Try.prog 10 #[.pointer (some ⟨r, 0, none⟩), .int .i64 most] w
      fun e w' => ∃ (A : Option Addr) (c p' : Nat) (t : Int × List Tk × Nat), blkF F (unpack bs) p most = t ∧ e = .returned (.tuple #[.slice A t.2.1.length c, .int .i64 t.1]) ∧ w'.ownsRow w.heap.size 39 3 (.slice A t.2.1.length c) t.2.1.length (t.2.1.flatMap tcC) ∧ RdS w' r base S bs p' ∧ (t.1 = 0 → p' = t.2.2) ∧ Mod (oneB r) w w' := by
  obtain ⟨hrl0, hp8, _⟩ := rd_low hrd
  have HA := Lib.hid (tkalph_any F hF r base S bs p w hrd hbl)
  clear hrd
  go_enter Try.func10, Try.ntmps10
  go_wp2_with fail
  refine HA.out.mono ?_
  rintro e w2 ⟨a, b, n, m, er, p2, rfl, hrd2, hm2, ⟨hne, hbk⟩ | ⟨rfl, z1, z2, ga, gb, rfl, rfl, rfl, rfl, h1, h2, hz1, hz2, hla, hlb, hbk⟩⟩
  · have HB := Lib.hid (hbk most)
    have HR2 := Lib.hid hrd2
    have HM2 := Lib.hid hm2
    have HNE := Lib.hid hne
    have t1 : (er != 0) = true := by simpa using hne
    have hbx := (Below.refl w2.heap.size w2).alloc (Nat.le_refl _) (.cells #[.pointer a, .int .i64 n, .pointer b, .int .i64 m] 62)
    have HBX := Lib.hid hbx
    clear hne hbk hrd2 hm2 hbx
    unfold alC
    go_wp2
    refine bodyPost_ret (results_tmp2 rfl _ _ _) rfl ?_
    exact ⟨none, 0, p2, _, HB.out, by rfl, World.ownsRow_nil _ _ _ _, HR2.out.keep (Mod.of_below HBX.out) (fun _ _ h => h), fun h => absurd h HNE.out, HM2.out.then_ ((Mod.of_below HBX.out).mono fun _ h => h.elim)⟩
  · have HB := Lib.hid (hbk most)
    have HM2 := Lib.hid hm2
    have hbx := (Below.refl w2.heap.size w2).alloc (Nat.le_refl _) (.cells #[.pointer (some ⟨ga, 0, none⟩), .int .i64 257, .pointer (some ⟨gb, 0, none⟩), .int .i64 0] 62)
    have hs2 := hm2.size
    have HTS := Lib.hid (tktoks_any F hF r base w.heap.size ga gb S bs p2 most z1 z2 (w2.alloc (.cells #[.pointer (some ⟨ga, 0, none⟩), .int .i64 257, .pointer (some ⟨gb, 0, none⟩), .int .i64 0] 62)) h1 h2 hz1 hz2 (hla.below_ hbx) (hlb.below_ hbx) hrl0 (hrd2.keep (Mod.of_below hbx) (fun _ _ h => h)) hbl m0 m1)
    have HBX := Lib.hid hbx
    clear hbk hrd2 hm2 hbx hla hlb
    unfold alC at HTS ⊢
    go_wp2_with (go_at_call 20; refine HTS.out.mono ?_; rintro e w3 ⟨A3, c3, p3, t3, ht3, rfl, hown3, hrd3, hpe3, hm3⟩; have HT3 := Lib.hid (And.intro ht3 (And.intro hown3 (And.intro hrd3 (And.intro hpe3 hm3)))); clear ht3 hown3 hrd3 hpe3 hm3)
    obtain ⟨ht3, hown3, hrd3, hpe3, hm3⟩ := HT3.out
    refine bodyPost_ret (results_tmp2 rfl _ _ _) rfl ?_
    exact ⟨A3, c3, p3, t3, HB.out.trans ht3, by rfl, own_leT hown3 (by simp; omega), hrd3, hpe3, (HM2.out.then_ ((Mod.of_below HBX.out).mono fun _ h => h.elim)).then_ hm3⟩
end Go.Proofs.Ytgbbdgoleiolhaa
