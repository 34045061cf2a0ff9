/- Layer 34: a code is added to a table: the first one of its beginning. -/
import Derived.Test.YtnobeipabfdkjaaQkAdd
namespace Go.Proofs.Ytnobeipabfdkjaa
open Go.RowKit Go.Maps
attribute [local go_sem ↓] Go.wp_at_zero Go.wp_at_succ

set_option maxRecDepth 100000 in
set_option maxHeartbeats 400000 in
theorem add_new (tb g m W t s n cnt base : Nat) (q : QS) (blk : Nat → Nat) (D : DataW Unit) (w : World) (h : LT w tb g m W q blk D cnt base) (hW : W ≤ 15) (hn15 : n ≤ 15) (ht : t < 2 ^ n) (hn : W < n)
    (hr : q.rows[t % 2 ^ W]? = some r0) (hL : q.more (t % 2 ^ W) = none) (hbase : base ≤ w.heap.size) (hcnt : cnt ≤ 100000) :
    Calls Try.prog 28 #[.pointer (some ⟨tb, 0, none⟩), .int .i64 (t : Int), .agg #[.int .i64 (s : Int), .int .i64 (n : Int), .bool false]] w
      fun e w' => e = .returned (.tuple #[]) ∧ AddPost w w' tb g m W q D cnt base t s n := by
  have hne0 : q.rows.getD (t % 2 ^ W) r0 = r0 := getD_r0 hr
  have HADD : Hid (q.add W t s n = ⟨q.rows.set (t % 2 ^ W) (0, n, true), fun y => if y = t % 2 ^ W then some (spreadL (List.replicate (2 ^ (n - W)) r0) (t / 2 ^ W) (n - W) (s, n, false)) else q.more y⟩ ∧ moreT W q t n = 2 ^ (n - W)) := by
    constructor
    · unfold QS.add
      rw [if_neg (by omega), if_pos hne0]
    · unfold moreT
      rw [if_neg (by omega), if_pos hne0]
  have hp : (2 : Nat) ^ W ≤ 32768 := Nat.le_trans (Nat.pow_le_pow_right (by decide) hW) (by decide)
  have hp0 := Nat.two_pow_pos W
  have hpn : (2 : Nat) ^ n ≤ 32768 := Nat.le_trans (Nat.pow_le_pow_right (by decide) hn15) (by decide)
  have hyl := div_pow_lt ht hn
  have hand := i64_and_low (t := t) (W := W) (by omega) hW
  obtain ⟨W1, hW1⟩ : ∃ W1, w.alloc (.cells #[.int .i64 (s : Int), .int .i64 (n : Int), .bool false] 35) = W1 := ⟨_, rfl⟩
  have HL1 : Hid (LT W1 tb g m W q blk D cnt base) := by show LT _ _ _ _ _ _ _ _ _ _; rw [← hW1]; exact h.alloc _
  have HM1 : Hid (Mod (tbS base) w W1) := by show Mod _ _ _; rw [← hW1]; exact (Mod.refl _ w).alloc _
  have hx := heap_alloc_new w (.cells #[.int .i64 (s : Int), .int .i64 (n : Int), .bool false] 35)
  rw [hW1] at hx
  have HX1 := Lib.hid hx
  have HTB : Hid (W1.heap[tb]? = some (.cells #[.int .i64 (W : Int), .slice (some ⟨g, 0, none⟩) (2 ^ W) (2 ^ W), .map (some m)] 60)) := HL1.out.tab
  have HNE := Lib.hid h.ne
  have hx9 : t % 2 ^ W < 9223372036854775808 := by have := Nat.mod_lt t hp0; omega
  have hpk : (2 : Nat) ^ (n - W) ≤ 32768 := Nat.le_trans (Nat.pow_le_pow_right (by decide) (show n - W ≤ 15 by omega)) (by decide)
  have HUP : Hid (∀ (V : World) (b K : Nat) (q' : QS), LT V tb g m W q' blk D cnt base → ∃ V', (Instr.mapUpdate 58 (.map (some m)) (.int .i64 ((t % 2 ^ W : Nat) : Int)) (.slice (some ⟨b, 0, none⟩) K K)).run Try.prog V = .ok () V' ∧ V'.ownsMap Try.prog 3 slR m (cnt + 1) (D.put (kx (t % 2 ^ W)) (slD b K)) ∧ V.grownBy V' (some m)) := fun V b K q' hV =>
    hV.map.update intKeyed Try.underlying58 (by unfold maxLen; omega) (kx_key hx9) (slR_mk b K)
  have HR1 := Lib.hid (rb_cells HL1.out.rows hr)
  have HLL := Lib.hid hL
  have hxN := Nat.mod_lt t hp0
  have hnW : ¬ (n : Int) ≤ (W : Int) := by omega
  have ht15 : t < 32768 := by omega
  have hshr : (t : Int) / 2 ^ W = ((t / 2 ^ W : Nat) : Int) := by simp
  have hdl : t / 2 ^ W ≤ t := Nat.div_le_self _ _
  have hsub : IntKind.i64.wrap ((n : Int) - (W : Int)) = ((n - W : Nat) : Int) := by rw [IntWalk.i64_in _ (by omega)]; omega
  have hsubN : IntKind.i64.wrap (((2 ^ W : Nat) : Int) - 1) = ((2 ^ W - 1 : Nat) : Int) := by rw [IntWalk.i64_in _ (by omega)]; omega
  obtain ⟨x, hxx⟩ : ∃ x, t % 2 ^ W = x := ⟨_, rfl⟩
  obtain ⟨y, hyy⟩ : ∃ y, t / 2 ^ W = y := ⟨_, rfl⟩
  obtain ⟨N1, hN1⟩ : ∃ N1, 2 ^ W - 1 = N1 := ⟨_, rfl⟩
  obtain ⟨k, hk⟩ : ∃ k, n - W = k := ⟨_, rfl⟩
  rw [hxx] at hand HUP HR1 HLL hxN HADD hx9
  rw [hyy] at hshr hdl HADD hyl
  rw [hN1] at hand hsubN
  rw [hk] at hsub HADD hpk hyl
  obtain ⟨N, hN⟩ : ∃ N, 2 ^ W = N := ⟨_, rfl⟩
  rw [hN] at HTB hsubN hxN hp
  obtain ⟨x0, x1, x2, t0, t1, t2⟩ := (seen_of HX1.out HTB.out).all
  obtain ⟨y0, y1, y2⟩ := HR1.out
  have y0 : W1.cell? ⟨g, x * 3, none⟩ = some (.int .i64 0) := y0
  have y1 : W1.cell? ⟨g, x * 3 + 1, none⟩ = some (.int .i64 0) := y1
  have y2 : W1.cell? ⟨g, x * 3 + 2, none⟩ = some (.bool false) := y2
  have z0 := rb_free HL1.out.rows (x * 3)
  have z1 := rb_free HL1.out.rows (x * 3 + 1)
  have z2 := rb_free HL1.out.rows (x * 3 + 2)
  have hk15 : k ≤ 15 := by omega
  have hk15 : k ≤ 15 := by omega
  have HYL := Lib.hid hyl
  obtain ⟨K, hK⟩ : ∃ K, 2 ^ k = K := ⟨_, rfl⟩
  rw [hK] at hpk
  have HKK := Lib.hid hK
  have hKs : (2 : Int) ^ k = (K : Int) := by rw [← hK]; simp
  have HGB : Hid (g < w.heap.size ∧ tb < w.heap.size ∧ w.heap.size ≠ g ∧ base ≤ w.heap.size) := by
    have := rb_lt h.rows
    have := (Array.getElem?_eq_some_iff.1 h.tab).1
    exact ⟨by omega, by omega, by omega, hbase⟩
  have HSET : Hid (RB ((((W1.setCell ⟨g, x * 3, none⟩ (.int .i64 0)).setCell ⟨g, x * 3 + 1, none⟩ (.int .i64 (n : Int))).setCell ⟨g, x * 3 + 2, none⟩ (.bool true)).drew.drew) g (q.rows.set x (0, n, true))) := rb_set (w := W1) HL1.out.rows x (0, n, true)
  have HMS : Hid (Mod (oneB g) W1 ((((W1.setCell ⟨g, x * 3, none⟩ (.int .i64 0)).setCell ⟨g, x * 3 + 1, none⟩ (.int .i64 (n : Int))).setCell ⟨g, x * 3 + 2, none⟩ (.bool true)).drew.drew)) :=
    ((((Mod.refl (oneB g) W1).set ⟨g, x * 3, none⟩ _ (.inl rfl)).set ⟨g, x * 3 + 1, none⟩ _ (.inl rfl)).set ⟨g, x * 3 + 2, none⟩ _ (.inl rfl)).drew.drew
  clear h hx ht hr hL hne0 hyl hpn hp0 hxx hyy hN1 hk hN hn hK hbase
  go_enter Try.func28, Try.ntmps28
  go_upto_region 1 with (fail)
  go_region
  go_upto_region 5 with (fail)
  go_region
  obtain ⟨W2, hW2⟩ : ∃ W2, (((W1.setCell ⟨g, x * 3, none⟩ (.int .i64 0)).setCell ⟨g, x * 3 + 1, none⟩ (.int .i64 (n : Int))).setCell ⟨g, x * 3 + 2, none⟩ (.bool true)).drew.drew = W2 := ⟨_, rfl⟩
  rw [hW2] at HSET HMS
  rw [hW2]
  have HL2 : Hid (LT W2 tb g m W ⟨q.rows.set x (0, n, true), q.more⟩ blk D cnt base) := HL1.out.rows_ HMS.out (List.length_set ..) HSET.out
  have HX2 : Hid (W2.heap[w.heap.size]? = some (.cells #[.int .i64 (s : Int), .int .i64 (n : Int), .bool false] 35)) := HMS.out.keep HX1.out HGB.out.2.2.1
  have HTB2 : Hid (W2.heap[tb]? = some (.cells #[.int .i64 (W : Int), .slice (some ⟨g, 0, none⟩) N N, .map (some m)] 60)) := HMS.out.keep HTB.out (fun e => HNE.out.1 e.symm)
  have HZ2 : Hid (w.heap.size < W2.heap.size) := (Array.getElem?_eq_some_iff.1 HX2.out).1
  have HMW2 : Hid (Mod (tbS base) w W2) := HM1.out.then_ (HMS.out.mono fun k hk => by cases hk; exact HNE.out.2.2.2.1)
  clear hW2 HSET HMS HX1 HTB HL1 HM1 x0 x1 x2 t0 t1 t2 y0 y1 y2 z0 z1 z2
  obtain ⟨x0, x1, x2, t0, t1, t2⟩ := (seen_of HX2.out HTB2.out).all
  have mk := make_rows K (by omega) W2.drew
  obtain ⟨W3, hW3⟩ : ∃ W3, W2.drew.alloc (.cells (madeCells #[.int .i64 0, .int .i64 0, .bool false] (K * 3)) 35) = W3 := ⟨_, rfl⟩
  have HB3 : Hid (Below W2.heap.size W2 W3) := by show Below _ _ _; rw [← hW3]; exact ((Below.refl _ W2).drew).alloc (Nat.le_refl _) _
  have HR3 : Hid (RB W3 W2.heap.size (List.replicate K r0)) := by show RB _ _ _; rw [← hW3]; exact made_rows W2.drew K
  have HX3 : Hid (W3.heap[w.heap.size]? = some (.cells #[.int .i64 (s : Int), .int .i64 (n : Int), .bool false] 35)) := (HB3.out.block _ HZ2.out).trans HX2.out
  have HTB3 : Hid (W3.heap[tb]? = some (.cells #[.int .i64 (W : Int), .slice (some ⟨g, 0, none⟩) N N, .map (some m)] 60)) := (HB3.out.block _ (Array.getElem?_eq_some_iff.1 HTB2.out).1).trans HTB2.out
  obtain ⟨W4, hrun4, hown4, hgrow4⟩ := HUP.out W3 W2.heap.size K _ (HL2.out.below HB3.out)
  rw [hW3] at mk
  obtain ⟨a0, a1, a2, b0, b1, b2⟩ := (seen_of HX3.out HTB3.out).all
  have HOW4 := Lib.hid hown4
  have HGR4 := Lib.hid hgrow4
  clear hown4 hgrow4 hW3
  go_upto_region 6 with (fail)
  go_region
  have keep4 : ∀ {j : Nat} {o : Obj}, W3.heap[j]? = some o → j ≠ m → W4.heap[j]? = some o := fun hj hne => (HGR4.out.block _ (Array.getElem?_eq_some_iff.1 hj).1 (fun e => hne (by first | exact (Option.some.inj e).symm | exact Option.some.inj e))).trans hj
  have hmw : w.heap.size ≠ m := by
    obtain ⟨es, clock, h1, _⟩ := HL2.out.map
    have h2 := HX2.out
    intro e
    rw [e] at h2
    rw [h2] at h1
    injection h1 with h1
    cases h1
  have HX4 := Lib.hid (keep4 HX3.out hmw)
  have HTB4 := Lib.hid (keep4 HTB3.out HNE.out.2.2.1)
  have hown4 := HOW4.out
  have hK2 : K = (List.replicate K r0).length := by rw [List.length_replicate]
  have HL4 := Lib.hid (HL2.out.put_ (w' := W3) (w'' := W4) (b := W2.heap.size) (L := List.replicate K r0) HLL.out HB3.out (Nat.le_refl _) (Nat.le_trans HGB.out.2.2.2 (Nat.le_of_lt HZ2.out)) HR3.out (by rw [← hK2]; exact hown4) HGR4.out)
  have HM4 : Hid (Mod (tbS base) w W4) := by
    have h3 : Mod (tbS base) w W3 := HMW2.out.trans (Mod.of_below HB3.out) (fun _ h => h.elim)
    exact h3.then_ ⟨HGR4.out.os, HGR4.out.tape, HGR4.out.output, HGR4.out.size, fun j hj hn => HGR4.out.block j hj (fun e => hn (by
      have e2 : m = j := by first | exact Option.some.inj e | exact (Option.some.inj e).symm
      subst e2
      exact HNE.out.2.2.2.2.2))⟩
  obtain ⟨b, hb⟩ : ∃ b, W2.heap.size = b := ⟨_, rfl⟩
  rw [hb] at HL4 HR3
  have HRB4 : Hid (RB W4 b (List.replicate K r0)) := by
    have h := (HL4.out.more x (List.replicate K r0) (if_pos rfl)).2.1
    rwa [if_pos rfl] at h
  have HBW : Hid (w.heap.size ≠ b ∧ tb ≠ b ∧ base ≤ b) := by
    have := HZ2.out
    have := HGB.out
    exact ⟨by omega, by omega, by omega⟩
  have K6 : (Instr.lookup 58 (.map (some m)) (.int .i64 (x : Int)) false).run Try.prog W4.drew = .ok (.slice (some ⟨b, 0, none⟩) K K) W4.drew := by
    have h := (HL4.out.drewN 1).look (x := x) (L := List.replicate K r0) hx9 (if_pos rfl)
    rw [if_pos rfl, List.length_replicate] at h
    exact h
  have HSP : Hid (Calls Try.prog 43 #[.slice (some ⟨b, 0, none⟩) K K, .int .i64 (y : Int), .int .i64 (k : Int), .agg #[.int .i64 (s : Int), .int .i64 (n : Int), .bool false]] W4.drew
      fun e w' => e = .returned (.tuple #[]) ∧ RB w' b (spreadL (List.replicate K r0) y k (s, n, false)) ∧ Mod (oneB b) W4.drew w') :=
    spread_any b K k y (List.replicate K r0) (s, n, false) W4.drew List.length_replicate hpk hk15 HYL.out HRB4.out
  clear hrun4 mk a0 a1 a2 b0 b1 b2 x0 x1 x2 t0 t1 t2 keep4 hmw hown4 hb hK2
  have S5 := (seen_of HX4.out HTB4.out).all
  go_upto_region 7 with (fail)
  go_region_held3 (fun V => V.cell? ⟨w.heap.size, 0, none⟩ = some (.int .i64 (s : Int)) ∧ V.cell? ⟨w.heap.size, 1, none⟩ = some (.int .i64 (n : Int)) ∧ V.cell? ⟨w.heap.size, 2, none⟩ = some (.bool false) ∧ V.cell? ⟨tb, 0, none⟩ = some (.int .i64 (W : Int)) ∧ V.cell? ⟨tb, 1, none⟩ = some (.slice (some ⟨g, 0, none⟩) N N) ∧ V.cell? ⟨tb, 2, none⟩ = some (.map (some m))) (first | exact S5 | exact S6)
    ((first
    | (go_at_call 43; refine HSP.out.mono ?_; rintro e w5 ⟨rfl, hr5, hm5⟩; have HR5 := Lib.hid hr5; have HM5 := Lib.hid hm5; have S6 := (seen_of (V := w5) (hm5.keep HX4.out HBW.out.1) (hm5.keep HTB4.out HBW.out.2.1)).all; clear hr5 hm5)))
  go_wp2
  go_end0
  refine ⟨rfl, (fun y' => if y' = x then b else blk y'), D.put (kx x) (slD b (List.replicate K r0).length), ?_, ?_, (HM4.out.drewN 1).then_ (HM5.out.mono fun j hj => by cases hj; exact HBW.out.2.2)⟩
  · rw [HADD.out.1, HKK.out]
    have h := (HL4.out.drewN 1).more_ (x := x) (L := List.replicate K r0) (L' := spreadL (List.replicate K r0) y k (s, n, false)) (w' := w5) (if_pos rfl) (by rw [if_pos rfl]; exact HM5.out) (spreadL_len _ _ _ _) (by rw [if_pos rfl]; exact HR5.out)
    have e : (fun y' => if y' = x then some (spreadL (List.replicate K r0) y k (s, n, false)) else if y' = x then some (List.replicate K r0) else q.more y') = fun y' => if y' = x then some (spreadL (List.replicate K r0) y k (s, n, false)) else q.more y' := by
      funext y'
      by_cases hy : y' = x
      · rw [if_pos hy, if_pos hy]
      · rw [if_neg hy, if_neg hy, if_neg hy]
    rw [← e]
    exact h
  · rw [HADD.out.2, HKK.out, sumD_put HL2.out.map.isMap (HL2.out.bare x HLL.out), slLen_mk, List.length_replicate]
    omega
end Go.Proofs.Ytnobeipabfdkjaa
